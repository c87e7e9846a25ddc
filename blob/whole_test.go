package blob_test

import (
	"bytes"
	"math/rand"
	"runtime"
	"slices"
	"strconv"
	"strings"
	"testing"
	"weak"

	"cordon/api"
	"cordon/arena"
	"cordon/blob"
	"cordon/clause"
	"cordon/formula"
	"cordon/label"
)

// known are the principals out of whom the tests make all formulas and labels.
var known = []string{"http://a", "http://b"}

// truth: a bit a set of principals, set if a formula holds for it.
type truth uint8

// truthOf: for which sets of the principals known a formula holds, by the clauses that it has.
func truthOf(f formula.Formula) truth {
	var all truth
	for agree := range 1 << len(known) {
		holds := true
		for c := range f.All() {
			holds = holds && slices.ContainsFunc(agreeing(agree), c.Has)
		}
		if holds {
			all |= 1 << agree
		}
	}
	return all
}

// agreeing: the principals known whose bits are set.
func agreeing(bits int) []string {
	var l []string
	for i, p := range known {
		if bits>>i&1 == 1 {
			l = append(l, p)
		}
	}
	return l
}

// everyFormula: all formulas of the principals known, each once, by what they hold for.
func everyFormula(t *testing.T) map[truth]formula.Formula {
	t.Helper()
	every := map[truth]formula.Formula{}
	sets := 1 << len(known)
	for clauses := range 1 << sets {
		var l []clause.Clause
		for bits := range sets {
			if clauses>>bits&1 == 1 {
				c, _ := clause.Of(agreeing(bits)...)
				l = append(l, c)
			}
		}
		f, e := formula.Of(l...)
		if e != api.OK {
			t.Fatalf("Of %b: %d", clauses, int(e))
		}
		every[truthOf(f)] = f
	}
	if len(every) != 6 { // Dedekind's number of two
		t.Fatalf("%d formulas", len(every))
	}
	return every
}

// toldLabel is a label by what its formulas hold for.
type toldLabel struct{ s, i truth }

// flows: does a label flow to another one by a privilege, by the sets alone?
func (x toldLabel) flows(y toldLabel, p truth) bool { return y.s&p&^x.s == 0 && x.i&p&^y.i == 0 }

// everyLabel: all labels of the principals known.
func everyLabel(t *testing.T) map[toldLabel]label.Label {
	t.Helper()
	every := map[toldLabel]label.Label{}
	formulas := everyFormula(t)
	for s, f := range formulas {
		for i, g := range formulas {
			every[toldLabel{s, i}] = label.Label{S: f, I: g}
		}
	}
	return every
}

// viewer is who asks: where, and by which privilege.
type viewer struct {
	at toldLabel
	by truth
}

// seenBy: who is let see a blob of a label, of all that there are.
func seenBy(t *testing.T, own label.Label) map[viewer]bool {
	t.Helper()
	tb := blob.New()
	puts(t, tb, blob.Blob{Label: own, Data: []byte("x")}, 1024)
	seen := map[viewer]bool{}
	for at, l := range everyLabel(t) {
		for by, p := range everyFormula(t) {
			data, e := tb.Open(1024, l, p)
			if e == api.OK != (string(data) == "x") || e != api.OK && e != api.ErrDenied {
				t.Fatalf("%q at %q by %q: %q, %d", own.Text(), l.Text(), p.Text(), data, int(e))
			}
			seen[viewer{at, by}] = e == api.OK
		}
	}
	return seen
}

// P16.1 and P16.2, of all labels of two principals and all privileges: a blob is seen just where the sets tell; so it is at each label to which that flows, and by each privilege that covers.
func TestWhoIsLetSee(t *testing.T) {
	every := everyLabel(t)
	for own, l := range every {
		seen := seenBy(t, l)
		if len(seen) != 36*6 {
			t.Fatalf("%d viewers", len(seen))
		}
		for v, ok := range seen {
			if ok != own.flows(v.at, v.by) {
				t.Fatalf("%q at %q by %b: %t", l.Text(), every[v.at].Text(), v.by, ok)
			}
			if !ok {
				continue
			}
			for w, too := range seen {
				if every[v.at].Flows(every[w.at]) && w.by&^v.by == 0 && !too {
					t.Fatalf("%q at %q by %b, but not at %q by %b", l.Text(), every[v.at].Text(), v.by, every[w.at].Text(), w.by)
				}
			}
		}
	}
}

// model is a table's slots by the chapters' words.
type model [16]struct {
	number int // of the blob that lies here, or lay here last
	there  bool
	blob   blob.Blob
}

// of: the slot in which a handle's blob lies; -1: in none.
func (m *model) of(h arena.Handle) int {
	for i, s := range m {
		if s.there && h == handle(s.number, i) {
			return i
		}
	}
	return -1
}

// put: what the chapter says of Put, on the model.
func (m *model) put(b blob.Blob) (arena.Handle, api.Errno) {
	if len(b.Data) > 4096 {
		return 0, api.ErrLong
	}
	for i := range m {
		if s := &m[i]; !s.there {
			s.number, s.there, s.blob = s.number+1, true, b
			return handle(s.number, i), api.OK
		}
	}
	return 0, api.ErrFull
}

// drop: what it says of Drop.
func (m *model) drop(h arena.Handle) bool {
	i := m.of(h)
	if i >= 0 {
		m[i].there = false
	}
	return i >= 0
}

// asModel: a table tells all that the model does.
func asModel(t *testing.T, tb *blob.Table, m *model, asked []arena.Handle) {
	t.Helper()
	n := 0
	for _, s := range m {
		if s.there {
			n++
		}
	}
	if tb.Len() != n {
		t.Errorf("Len: %d, not %d", tb.Len(), n)
	}
	for _, h := range asked {
		b, ok := tb.Take(h)
		data, e := tb.Open(h, label.Open(), formula.Always())
		want, errno := blob.Blob{}, api.ErrGone
		if i := m.of(h); i >= 0 {
			want, errno = m[i].blob, api.ErrDenied
			if want.Label.S.Same(formula.Always()) {
				errno = api.OK
			}
		}
		if ok != (errno != api.ErrGone) || !b.Label.Same(want.Label) || !bytes.Equal(b.Data, want.Data) {
			t.Errorf("Take(%d): %q, %t", h, written(b), ok)
		}
		if e != errno || e == api.OK && !bytes.Equal(data, want.Data) || e != api.OK && data != nil {
			t.Errorf("Open(%d): %q, %d, not %d", h, data, int(e), int(errno))
		}
	}
}

// deed is one thing that is done to a table: a blob is put, or, where there is none, a handle's is dropped.
type deed struct {
	blob *blob.Blob
	h    arena.Handle
}

// does: the same to a table and to the model.
func does(t *testing.T, tb *blob.Table, m *model, d deed) {
	t.Helper()
	if d.blob == nil {
		if ok, want := tb.Drop(d.h), m.drop(d.h); ok != want {
			t.Errorf("Drop(%d): %t", d.h, ok)
		}
		return
	}
	h, e := tb.Put(*d.blob)
	if want, errno := m.put(*d.blob); h != want || e != errno {
		t.Errorf("Put: %d, %d, not %d, %d", h, int(e), want, int(errno))
	}
}

// P16.1 once more, of all that may be done in up to five deeds, to an empty table and to one that is nearly full; each deed is done to a copy.
func TestAllShortLives(t *testing.T) {
	var asked []arena.Handle
	for _, slot := range []int{0, 1, 2, 14, 15, 16} {
		for number := range 4 {
			asked = append(asked, handle(number, slot))
		}
	}
	open, secret := small(t, "always", "x"), small(t, "http://a", "y")
	long := blob.Blob{Data: make([]byte, api.MaxText+1)}
	deeds := []deed{{blob: &open}, {blob: &secret}, {blob: &long}, {h: 1024}, {h: 1025}, {h: 2048}, {h: 1039}}
	var lives func(tb *blob.Table, m model, left int)
	lives = func(tb *blob.Table, m model, left int) {
		asModel(t, tb, &m, asked)
		if left == 0 || t.Failed() {
			return
		}
		for _, d := range deeds {
			apart, n := tb.Copy(), m
			does(t, apart, &n, d)
			lives(apart, n, left-1)
		}
		asModel(t, tb, &m, asked) // what its copies did isn't its own
	}
	lives(blob.New(), model{}, 5)
	nearly, m := blob.New(), model{}
	for range 15 {
		does(t, nearly, &m, deed{blob: &secret})
	}
	lives(nearly, m, 5)
}

// And of long lives.
func TestLongLives(t *testing.T) {
	labels := []label.Label{label.Open(), label.Pure(), label.Shut(), labeled(t, "http://a;http://b")}
	for seed := range int64(60) {
		r := rand.New(rand.NewSource(seed))
		tb, m := blob.New(), model{}
		given := []arena.Handle{0, -1, 1024, 1040, 2048}
		for i := range 400 {
			d := deed{h: given[r.Intn(len(given))]}
			if r.Intn(2) == 0 {
				d.blob = &blob.Blob{Label: labels[r.Intn(len(labels))], Data: []byte(strconv.Itoa(i))}
			}
			does(t, tb, &m, d)
			slot := r.Intn(16)
			given = append(given, handle(m[slot].number+r.Intn(3)-1, slot))
			if r.Intn(20) == 0 {
				tb = tb.Copy()
			}
			if r.Intn(20) == 0 || i == 399 {
				asModel(t, tb, &m, given)
			}
		}
	}
}

// P16.2: what is handed in isn't changed, its spare room neither, and may be changed afterwards.
func TestHandedIn(t *testing.T) {
	for _, n := range []int{0, 1, 5, 100, api.MaxText} {
		room := bytes.Repeat([]byte("abcdefg"), 1000)
		before := slices.Clone(room)
		tb := blob.New()
		puts(t, tb, blob.Blob{Label: labeled(t, "http://a"), Data: room[:n]}, 1024)
		puts(t, tb, blob.Blob{Label: labeled(t, "http://b"), Data: room[n : n+10]}, 1025)
		tb.Copy()
		tb.Drop(1025)
		tb.Put(blob.Blob{})
		tb.Put(blob.Blob{Data: room[:api.MaxText+1]})
		if !bytes.Equal(room, before) {
			t.Errorf("%d bytes: they were changed", n)
		}
		apart := tb.Copy()
		clear(room)
		for _, tb := range []*blob.Table{tb, apart} {
			takes(t, tb, 1024, blob.Blob{Label: labeled(t, "http://a"), Data: before[:n]})
		}
	}
}

// overwrite changes an answer's bytes, and its spare room.
func overwrite(data []byte) {
	data = data[:cap(data)]
	for i := range data {
		data[i] = '!'
	}
}

// P16.2: answers are new memory: they may be changed without changing the table, its copies or other answers.
func TestAnswered(t *testing.T) {
	for _, data := range []string{"", "x", "some bytes", strings.Repeat("0123456789abcdef", 256)} {
		want := small(t, "http://a", data)
		tb := blob.New()
		puts(t, tb, want, 1024)
		apart := tb.Copy()
		a := want.Label
		for _, here := range []*blob.Table{tb, apart, apart.Copy()} {
			first, _ := here.Open(1024, a, formula.Always())
			second, _ := here.Open(1024, label.Open(), a.S)
			third, _ := here.Take(1024)
			fourth, _ := here.Take(1024)
			overwrite(first)
			overwrite(third.Data)
			third.Label = label.Open()
			if string(second) != data || string(fourth.Data) != data || !fourth.Label.Same(a) {
				t.Errorf("other answers of %.20q were changed: %.20q, %.20q", data, second, written(fourth))
			}
			overwrite(second)
			overwrite(fourth.Data)
			for _, there := range []*blob.Table{tb, apart} {
				takes(t, there, 1024, want)
				opens(t, there, 1024, a, formula.Always(), data, api.OK)
				opens(t, there, 1024, label.Open(), formula.Always(), "", api.ErrDenied)
			}
		}
	}
}

// What was taken is the taker's: Drop doesn't change it, nor does what is put there then.
func TestTakenIsApart(t *testing.T) {
	tb := blob.New()
	puts(t, tb, small(t, "http://a", "first"), 1024)
	b, _ := tb.Take(1024)
	data, _ := tb.Open(1024, label.Shut(), formula.Always())
	drops(t, tb, 1024)
	puts(t, tb, small(t, "http://b", "other"), 2048)
	if written(b) != "http://a;always=first" || string(data) != "first" {
		t.Errorf("%q, %q", written(b), data)
	}
}

// What was handed in isn't kept.
func TestKeepsNothing(t *testing.T) {
	tb := blob.New()
	var handed [3]weak.Pointer[byte]
	for i, n := range []int{1, 1000, api.MaxText} {
		data := make([]byte, api.MaxText)
		handed[i] = weak.Make(&data[0])
		puts(t, tb, blob.Blob{Data: data[:n]}, handle(1, i))
	}
	runtime.GC()
	for i, p := range handed {
		if p.Value() != nil {
			t.Errorf("the bytes of %d are kept", i)
		}
	}
	runtime.KeepAlive(tb)
}

// R1: any bytes are a blob's.
func TestAnyBytes(t *testing.T) {
	tb := blob.New()
	for i, data := range []string{"\x00", "\xff\xfe", "\r\n", " \t ", strings.Repeat("\x00", api.MaxText), strings.Repeat("\xff", api.MaxText), "\u00e9\u3000"} {
		puts(t, tb, blob.Blob{Data: []byte(data)}, handle(1, i))
		opens(t, tb, handle(1, i), label.Open(), formula.Always(), data, api.OK)
	}
	every := make([]byte, 256)
	for i := range every {
		every[i] = byte(i)
	}
	puts(t, tb, blob.Blob{Data: every}, handle(1, 7))
	opens(t, tb, handle(1, 7), label.Open(), formula.Always(), string(every), api.OK)
}

// R1: a table that nobody made, but that is there, does no harm.
func TestNobodysTable(t *testing.T) {
	var tb blob.Table
	if h, e := tb.Put(blob.Blob{}); h != 0 || e == api.OK {
		t.Errorf("Put: %d, %d", h, int(e))
	}
	tellsNothing(t, &tb, 0, 1024, -1)
	holds(t, tb.Copy(), "")
}
