package blob_test

import (
	"bytes"
	"math"
	"slices"
	"strconv"
	"strings"
	"testing"

	"cordon/api"
	"cordon/arena"
	"cordon/blob"
	"cordon/formula"
	"cordon/label"
)

// of: the formula of a text, that there is.
func of(t *testing.T, text string) formula.Formula {
	t.Helper()
	f, e := formula.Parse([]byte(text))
	if e != api.OK {
		t.Fatalf("formula %.80q: %d", text, int(e))
	}
	return f
}

// labeled: the label of a text, that there is.
func labeled(t *testing.T, text string) label.Label {
	t.Helper()
	l, e := label.Parse([]byte(text))
	if e != api.OK {
		t.Fatalf("label %.80q: %d", text, int(e))
	}
	return l
}

// small: a blob of a label's text and some data.
func small(t *testing.T, text, data string) blob.Blob {
	t.Helper()
	return blob.Blob{Label: labeled(t, text), Data: []byte(data)}
}

// handle: that of the how manieth blob of a slot, as chapter 15 reckons it.
func handle(number, slot int) arena.Handle { return arena.Handle(number*1024 + slot) }

// askedFor are the handles by which the tests ask for all that a table has.
func askedFor() []arena.Handle {
	var l []arena.Handle
	for slot := range api.MaxBlobs + 2 {
		for number := -1; number < 8; number++ {
			l = append(l, handle(number, slot))
		}
	}
	return l
}

// told: how the tests write all of a table's blobs, by slots, with their handles.
func told(tb *blob.Table) string {
	var l []string
	for _, h := range askedFor() {
		if b, ok := tb.Take(h); ok {
			l = append(l, strconv.Itoa(int(h))+" "+written(b))
		}
	}
	return strings.Join(l, ", ")
}

// written: how the tests write a blob.
func written(b blob.Blob) string {
	return b.Label.S.Text() + ";" + b.Label.I.Text() + "=" + string(b.Data)
}

// holds: a table's blobs, all of them, and how many.
func holds(t *testing.T, tb *blob.Table, want string) {
	t.Helper()
	if got := told(tb); got != want {
		t.Errorf("%.200q, not %.200q", got, want)
	}
	n := strings.Count(want, "=")
	if tb.Len() != n {
		t.Errorf("Len: %d, not %d", tb.Len(), n)
	}
}

// unchanged: what a deed does to a table can't be told.
func unchanged(t *testing.T, tb *blob.Table, deed func()) {
	t.Helper()
	before, n := told(tb), tb.Len()
	deed()
	if now := told(tb); now != before || tb.Len() != n {
		t.Errorf("%.200q, %d became %.200q, %d", before, n, now, tb.Len())
	}
}

// puts: a blob may be put, and has this handle.
func puts(t *testing.T, tb *blob.Table, b blob.Blob, want arena.Handle) {
	t.Helper()
	if h, e := tb.Put(b); h != want || e != api.OK {
		t.Errorf("Put of %.80q: %d, %d, not %d", written(b), h, int(e), want)
	}
}

// cantPut: a blob is refused, and nothing is changed by it.
func cantPut(t *testing.T, tb *blob.Table, b blob.Blob, want api.Errno) {
	t.Helper()
	unchanged(t, tb, func() {
		if h, e := tb.Put(b); h != 0 || e != want {
			t.Errorf("Put of %d bytes: %d, %d, not %d", len(b.Data), h, int(e), int(want))
		}
	})
}

// opens: what Open answers of a blob at a label by a privilege: its bytes, or an error alone. Nothing is changed by it.
func opens(t *testing.T, tb *blob.Table, h arena.Handle, at label.Label, p formula.Formula, want string, errno api.Errno) {
	t.Helper()
	unchanged(t, tb, func() {
		data, e := tb.Open(h, at, p)
		if e != errno || string(data) != want || e != api.OK && data != nil {
			t.Errorf("Open(%d) at %.80q by %.80q: %.80q, %d, not %.80q, %d", h, at.Text(), p.Text(), data, int(e), want, int(errno))
		}
	})
}

// takes: a blob is told, and stays.
func takes(t *testing.T, tb *blob.Table, h arena.Handle, want blob.Blob) {
	t.Helper()
	unchanged(t, tb, func() {
		b, ok := tb.Take(h)
		if !ok || !b.Label.Same(want.Label) || !bytes.Equal(b.Data, want.Data) {
			t.Errorf("Take(%d): %.80q, %t, not %.80q", h, written(b), ok, written(want))
		}
	})
}

// drops: blobs that are there may be dropped.
func drops(t *testing.T, tb *blob.Table, hs ...arena.Handle) {
	t.Helper()
	for _, h := range hs {
		if !tb.Drop(h) {
			t.Errorf("Drop(%d): it wasn't there", h)
		}
	}
}

// tellsNothing: none of the handles tells a blob, whoever asks, and a table is as it was behind each way of using them.
func tellsNothing(t *testing.T, tb *blob.Table, hs ...arena.Handle) {
	t.Helper()
	for _, h := range hs {
		for _, at := range []label.Label{label.Pure(), label.Open(), label.Shut()} {
			opens(t, tb, h, at, formula.Always(), "", api.ErrGone)
			opens(t, tb, h, at, formula.Never(), "", api.ErrGone)
		}
		unchanged(t, tb, func() {
			if b, ok := tb.Take(h); ok || b.Data != nil || !b.Label.Same(label.Label{}) {
				t.Errorf("Take(%d): %.80q, %t", h, written(b), ok)
			}
			if tb.Drop(h) {
				t.Errorf("Drop(%d): true", h)
			}
		})
	}
}

// filled: a table in which so many blobs were put, each of its slot's number.
func filled(t *testing.T, many int) *blob.Table {
	t.Helper()
	tb := blob.New()
	for i := range many {
		puts(t, tb, small(t, "http://a", strconv.Itoa(i)), handle(1, i))
	}
	return tb
}

// P16.1: New

func TestNew(t *testing.T) {
	tb := blob.New()
	if tb == nil {
		t.Fatal("no table")
	}
	holds(t, tb, "")
	tellsNothing(t, tb, askedFor()...)
	if other := blob.New(); other == tb {
		t.Error("the same table twice")
	} else {
		puts(t, other, small(t, "http://a", "x"), 1024)
		holds(t, tb, "")
	}
}

// P16.1: Put

// Blobs of as many bytes as there may be, and of more.
func TestPutBytes(t *testing.T) {
	for _, n := range []int{0, 1, 2, 1023, 1024, 4095, 4096, api.MaxText} {
		tb := blob.New()
		b := blob.Blob{Label: labeled(t, "http://a;http://b"), Data: bytes.Repeat([]byte{'x', 0, 255}, n)[:n]}
		puts(t, tb, b, 1024)
		takes(t, tb, 1024, b)
		opens(t, tb, 1024, b.Label, formula.Always(), string(b.Data), api.OK)
	}
	for _, n := range []int{4097, api.MaxText + 1, 2 * api.MaxText, 1 << 20} {
		for _, l := range []label.Label{label.Open(), label.Shut(), label.Pure(), labeled(t, "http://a")} {
			tb := blob.New()
			cantPut(t, tb, blob.Blob{Label: l, Data: make([]byte, n)}, api.ErrLong)
			puts(t, tb, small(t, "http://a", "x"), 1024) // the slot's number wasn't used up
			cantPut(t, tb, blob.Blob{Label: l, Data: make([]byte, n)}, api.ErrLong)
			puts(t, tb, small(t, "http://a", "y"), 1025)
			holds(t, tb, "1024 http://a;always=x, 1025 http://a;always=y")
		}
	}
}

// No bytes are bytes, too: nil ones, empty ones, those of the zero value, which is open.
func TestPutNoBytes(t *testing.T) {
	tb := blob.New()
	puts(t, tb, blob.Blob{}, 1024)
	puts(t, tb, blob.Blob{Label: labeled(t, "http://a"), Data: nil}, 1025)
	puts(t, tb, blob.Blob{Label: labeled(t, "http://a"), Data: []byte{}}, 1026)
	holds(t, tb, "1024 always;always=, 1025 http://a;always=, 1026 http://a;always=")
	opens(t, tb, 1024, label.Open(), formula.Always(), "", api.OK)
	opens(t, tb, 1025, labeled(t, "http://a"), formula.Always(), "", api.OK)
	opens(t, tb, 1026, labeled(t, "http://a"), formula.Always(), "", api.OK)
	opens(t, tb, 1025, label.Open(), formula.Always(), "", api.ErrDenied)
	opens(t, tb, 1026, label.Open(), formula.Always(), "", api.ErrDenied)
}

// As many blobs as there may be, and one more; a full table behind a Drop.
func TestPutFull(t *testing.T) {
	if api.MaxBlobs != 16 {
		t.Fatal("the limit isn't that of the document")
	}
	for slot := range 16 {
		tb := filled(t, 16)
		more := small(t, "http://b", "more")
		cantPut(t, tb, more, api.ErrFull)
		cantPut(t, tb, blob.Blob{}, api.ErrFull)
		cantPut(t, tb, blob.Blob{Data: make([]byte, api.MaxText+1)}, api.ErrLong) // ahead of ErrFull
		takes(t, tb, handle(1, slot), small(t, "http://a", strconv.Itoa(slot)))
		cantPut(t, tb, more, api.ErrFull) // what is taken stays
		drops(t, tb, handle(1, slot))
		cantPut(t, tb, blob.Blob{Data: make([]byte, api.MaxText+1)}, api.ErrLong)
		puts(t, tb, more, handle(2, slot))
		cantPut(t, tb, more, api.ErrFull)
		tellsNothing(t, tb, handle(1, slot), handle(3, slot))
		for i := range 16 {
			if i != slot {
				takes(t, tb, handle(1, i), small(t, "http://a", strconv.Itoa(i)))
			}
		}
		takes(t, tb, handle(2, slot), more)
	}
}

// The handles that Put answers: of the first slot that is free, and of how many blobs lay there.
func TestHandles(t *testing.T) {
	tb := filled(t, 4)
	drops(t, tb, 1026, 1024)
	puts(t, tb, small(t, "http://b", "x"), 2048)
	puts(t, tb, small(t, "http://b", "y"), 2050)
	puts(t, tb, small(t, "http://b", "z"), 1028)
	drops(t, tb, 2048)
	puts(t, tb, small(t, "http://b", "w"), 3072)
	holds(t, tb, "3072 http://b;always=w, 1025 http://a;always=1, 2050 http://b;always=y, 1027 http://a;always=3, 1028 http://b;always=z")
	tellsNothing(t, tb, 1024, 2048, 1026)

	// The same blob again has another handle, and both are there.
	b := small(t, "http://c", "same")
	puts(t, tb, b, 1029)
	puts(t, tb, b, 1030)
	drops(t, tb, 1029)
	takes(t, tb, 1030, b)
	puts(t, tb, b, 2053)
	takes(t, tb, 2053, b)
}

// One slot, in which blobs lie one behind the other.
func TestOneSlot(t *testing.T) {
	tb := blob.New()
	var gone []arena.Handle
	for number := 1; number < 6; number++ {
		h := arena.Handle(1024 * number)
		tellsNothing(t, tb, h)
		puts(t, tb, small(t, "http://a", "x"), h)
		tellsNothing(t, tb, gone...)
		drops(t, tb, h)
		gone = append(gone, h)
		tellsNothing(t, tb, gone...)
	}
	holds(t, tb, "")
}

// P16.1: Open

// Where a blob may be seen: ErrDenied, unless its label flows there by the privilege.
func TestOpen(t *testing.T) {
	const ok, denied = api.OK, api.ErrDenied
	for _, c := range []struct {
		own, at, by string
		want        api.Errno
	}{
		// At its own label, at one above it, below it, beside it, without a privilege.
		{"http://a", "http://a", "always", ok}, {"http://a;http://c", "http://a;http://c", "always", ok}, {"always", "always", "always", ok}, {"never", "never", "always", ok}, {"never;never", "never;never", "always", ok},
		{"http://a", "http://a & http://b", "always", ok}, {"http://a | http://b", "http://a", "always", ok}, {"http://a", "never", "always", ok}, {"always", "http://a", "always", ok}, {"http://a;http://c", "http://a", "always", ok}, {"always;never", "always;http://c", "always", ok},
		{"http://a & http://b", "http://a", "always", denied}, {"http://a", "http://a | http://b", "always", denied}, {"never", "http://a", "always", denied}, {"http://a", "always", "always", denied}, {"http://a", "http://a;http://c", "always", denied}, {"always;http://c", "always;never", "always", denied},
		{"http://a", "http://b", "always", denied}, {"http://a", "http://b;http://c", "always", denied}, {"http://a;http://c", "http://b", "always", denied}, {"http://a;http://b", "http://a;http://c", "always", denied}, {"http://a", "always;http://a", "always", denied},

		// By never, whatever the labels.
		{"http://a", "http://b", "never", ok}, {"http://a", "always", "never", ok}, {"never", "always;never", "never", ok}, {"http://a;http://b", "http://c;http://d", "never", ok}, {"never;always", "always;http://a", "never", ok}, {"http://a", "http://a", "never", ok},

		// By a privilege that covers the difference, and by one that doesn't.
		{"http://a", "always", "http://a", ok}, {"http://a", "always", "http://b", denied}, {"http://a", "always", "http://a & http://b", ok}, {"http://a", "always", "http://a | http://b", denied}, {"http://a | http://b", "always", "http://a", ok}, {"http://a | http://b", "always", "http://a | http://b", ok},
		{"http://a & http://b", "always", "http://a", denied}, {"http://a & http://b", "http://b", "http://a", ok}, {"http://a & http://b", "http://a", "http://a", denied}, {"http://a & http://b", "always", "http://a & http://b", ok}, {"never", "always", "http://a", denied}, {"http://a", "http://b", "http://a", ok},
		{"always", "always;http://c", "http://c", ok}, {"always", "always;http://c", "http://a", denied}, {"always;http://a", "always;http://a & http://c", "http://c", ok}, {"always;http://a", "always;http://c", "http://a", denied}, {"always", "always;never", "http://c", denied},
		{"http://a", "always;http://c", "http://a", denied}, {"http://a", "always;http://c", "http://c", denied}, {"http://a", "always;http://c", "http://a & http://c", ok}, {"http://a", "always;http://a", "http://a", ok},

		// By one that isn't needed.
		{"http://a", "http://a", "http://b", ok}, {"http://a", "never", "http://a", ok}, {"always", "always", "http://a", ok},
	} {
		tb := blob.New()
		puts(t, tb, small(t, "http://z", "other"), 1024)
		puts(t, tb, small(t, c.own, "data"), 1025)
		data := ""
		if c.want == ok {
			data = "data"
		}
		opens(t, tb, 1025, labeled(t, c.at), of(t, c.by), data, c.want)
		opens(t, tb, 1025, labeled(t, c.at), of(t, c.by), data, c.want)
	}
}

// Example 1.
func TestExample(t *testing.T) {
	tb := blob.New()
	a, _ := label.Of("http://a")
	puts(t, tb, blob.Blob{Label: a, Data: []byte("its bytes")}, 1024)
	opens(t, tb, 1024, label.Open(), formula.Always(), "", api.ErrDenied)
	opens(t, tb, 1024, label.Open(), a.S, "its bytes", api.OK)
}

// numbered: the text of the formula by which principals with the numbers from a one on to ahead of another one agree (10 to 99).
func numbered(from, to int) string {
	var l []string
	for n := from; n < to; n++ {
		l = append(l, "http://p"+strconv.Itoa(n))
	}
	return strings.Join(l, " & ")
}

// What is asked for a blob may have more clauses, all together, than one formula may.
func TestOpenOfManyClauses(t *testing.T) {
	tb := blob.New()
	puts(t, tb, small(t, numbered(10, 26), "x"), 1024)
	puts(t, tb, small(t, "always;"+numbered(10, 26), "y"), 1025)
	opens(t, tb, 1024, labeled(t, numbered(18, 34)), of(t, numbered(10, 18)+" & "+numbered(40, 48)), "x", api.OK)
	opens(t, tb, 1024, labeled(t, numbered(18, 34)), of(t, numbered(10, 17)+" & "+numbered(40, 48)), "", api.ErrDenied)
	opens(t, tb, 1024, labeled(t, numbered(19, 34)), of(t, numbered(10, 18)+" & "+numbered(40, 48)), "", api.ErrDenied)
	opens(t, tb, 1025, labeled(t, "always;"+numbered(18, 34)), of(t, numbered(26, 34)+" & "+numbered(40, 48)), "y", api.OK)
	opens(t, tb, 1025, labeled(t, "always;"+numbered(18, 34)), of(t, numbered(27, 34)+" & "+numbered(40, 48)), "", api.ErrDenied)
	opens(t, tb, 1025, labeled(t, "always;"+numbered(18, 34)), of(t, numbered(26, 33)+" & "+numbered(40, 48)), "", api.ErrDenied)
}

// Each blob is seen by its own label alone, also where another one lay.
func TestOpenOfSeveral(t *testing.T) {
	tb := blob.New()
	puts(t, tb, small(t, "http://a", "of a"), 1024)
	puts(t, tb, small(t, "http://b", "of b"), 1025)
	puts(t, tb, small(t, "always", "of all"), 1026)
	for _, c := range []struct {
		at   string
		want [3]string
	}{
		{"http://a", [3]string{"of a", "", "of all"}},
		{"http://b", [3]string{"", "of b", "of all"}},
		{"always", [3]string{"", "", "of all"}},
		{"never", [3]string{"of a", "of b", "of all"}},
	} {
		for i, want := range c.want {
			errno := api.OK
			if want == "" {
				errno = api.ErrDenied
			}
			opens(t, tb, handle(1, i), labeled(t, c.at), formula.Always(), want, errno)
		}
	}
	drops(t, tb, 1024)
	puts(t, tb, small(t, "http://b", "of b, too"), 2048)
	opens(t, tb, 2048, labeled(t, "http://a"), formula.Always(), "", api.ErrDenied)
	opens(t, tb, 2048, labeled(t, "http://b"), formula.Always(), "of b, too", api.OK)
	opens(t, tb, 1024, labeled(t, "http://a"), formula.Always(), "", api.ErrGone)
}

// ErrGone is told ahead of ErrDenied: of what has gone it isn't told whether it might have been seen.
func TestGoneAheadOfDenied(t *testing.T) {
	tb := blob.New()
	puts(t, tb, small(t, "never", "x"), 1024)
	opens(t, tb, 1024, label.Open(), formula.Always(), "", api.ErrDenied)
	opens(t, tb, 1025, label.Open(), formula.Always(), "", api.ErrGone)
	opens(t, tb, 2048, label.Open(), formula.Always(), "", api.ErrGone)
	drops(t, tb, 1024)
	opens(t, tb, 1024, label.Open(), formula.Always(), "", api.ErrGone)
	opens(t, tb, 1024, label.Shut(), formula.Never(), "", api.ErrGone)
	puts(t, tb, small(t, "never", "y"), 2048)
	opens(t, tb, 1024, label.Open(), formula.Always(), "", api.ErrGone)
	opens(t, tb, 2048, label.Open(), formula.Always(), "", api.ErrDenied)
}

// P16.1: Open, Take and Drop by handles that tell nothing, of every kind.
func TestWrongHandles(t *testing.T) {
	wrong := []arena.Handle{
		0, 1, 2, 15, 16, 1023, // the number 0
		1027, 1039, 1040, 1041, 1024 + 1023, // slots in which nothing ever was, or that aren't there
		2048, 2050, 3072, // numbers still to come
		1025, 3073, // what lay in a slot where another blob lies now, and what will lie there
		-1, -2, -1024, -1023, -1025, -2047, -2048, math.MinInt, math.MinInt + 1, math.MaxInt, math.MaxInt - 1023, math.MaxInt - 1022,
		1<<32 + 1024, 1<<32 + 2049, 1<<42 + 1024, -1<<32 + 1024, -1 << 32,
	}
	tb := filled(t, 3)
	drops(t, tb, 1025)
	puts(t, tb, small(t, "always", "x"), 2049)
	tellsNothing(t, tb, wrong...)
	holds(t, tb, "1024 http://a;always=0, 2049 always;always=x, 1026 http://a;always=2")
	drops(t, tb, 1024, 2049, 1026)
	wrong = append(wrong, 1024, 2049, 1026)
	tellsNothing(t, tb, wrong...)
	tellsNothing(t, blob.New(), wrong...)
}

// P16.1: Take

// A blob is told whole, whoever asks, and stays.
func TestTake(t *testing.T) {
	tb := blob.New()
	texts := []string{"always", "never", "always;never", "never;never", "http://a", "http://a | http://b & http://c;http://d"}
	for i, text := range texts {
		puts(t, tb, small(t, text, "data "+text), handle(1, i))
	}
	for range 3 {
		for i, text := range texts {
			takes(t, tb, handle(1, i), small(t, text, "data "+text))
		}
	}
	opens(t, tb, 1025, label.Open(), formula.Always(), "", api.ErrDenied)
	takes(t, tb, 1025, small(t, "never", "data never")) // what may not be seen is handed on
	opens(t, tb, 1025, label.Open(), formula.Always(), "", api.ErrDenied)

	// What is handed on is a blob in another table, and in the same one.
	b, _ := tb.Take(1025)
	other := blob.New()
	puts(t, other, b, 1024)
	puts(t, tb, b, handle(1, len(texts)))
	opens(t, other, 1024, label.Open(), formula.Always(), "", api.ErrDenied)
	opens(t, other, 1024, label.Shut(), formula.Always(), "data never", api.OK)
	drops(t, tb, 1025)
	takes(t, other, 1024, b)
	takes(t, tb, handle(1, len(texts)), b)
}

// P16.1: Drop, Len

// What is dropped is gone, once, and nothing else is.
func TestDrop(t *testing.T) {
	tb := filled(t, 3)
	drops(t, tb, 1025)
	tellsNothing(t, tb, 1025)
	holds(t, tb, "1024 http://a;always=0, 1026 http://a;always=2")
	drops(t, tb, 1026)
	tellsNothing(t, tb, 1025, 1026)
	holds(t, tb, "1024 http://a;always=0")
	drops(t, tb, 1024)
	tellsNothing(t, tb, 1024, 1025, 1026)
	holds(t, tb, "")
	puts(t, tb, small(t, "never", "x"), 2048)
	drops(t, tb, 2048) // also what nobody may see
	tellsNothing(t, tb, 1024, 2048)
	holds(t, tb, "")
}

func TestLen(t *testing.T) {
	tb := blob.New()
	counts := func(want int) {
		t.Helper()
		if n := tb.Len(); n != want {
			t.Errorf("Len: %d, not %d", n, want)
		}
	}
	counts(0)
	for i := range 16 {
		tb.Put(blob.Blob{Label: label.Shut()})
		counts(i + 1)
	}
	tb.Put(blob.Blob{})
	counts(16)
	tb.Take(1024)
	tb.Open(1024, label.Open(), formula.Always())
	tb.Open(1024, label.Shut(), formula.Always())
	counts(16)
	for i := range 16 {
		tb.Drop(handle(1, i))
		counts(15 - i)
		tb.Drop(handle(1, i))
		counts(15 - i)
	}
}

// P16.1: Copy

// A copy has the same blobs under the same handles, and goes on as the first one would; what is done to one isn't done to the other one.
func TestCopy(t *testing.T) {
	a := filled(t, 4)
	drops(t, a, 1025, 1026)
	puts(t, a, small(t, "never;http://c", "x"), 2049)
	const first = "1024 http://a;always=0, 2049 never;http://c=x, 1027 http://a;always=3"
	b := a.Copy()
	holds(t, b, first)
	opens(t, b, 2049, label.Open(), formula.Always(), "", api.ErrDenied)
	opens(t, b, 2049, labeled(t, "never;http://c"), formula.Always(), "x", api.OK)
	tellsNothing(t, b, 1025, 1026, 2050)

	// The copy is changed.
	puts(t, b, small(t, "http://b", "y"), 2050)
	drops(t, b, 1024)
	puts(t, b, small(t, "http://b", "z"), 2048)
	holds(t, b, "2048 http://b;always=z, 2049 never;http://c=x, 2050 http://b;always=y, 1027 http://a;always=3")
	holds(t, a, first)

	// The first one is changed behind it.
	puts(t, a, small(t, "http://c", "v"), 2050)
	drops(t, a, 2049, 1027)
	holds(t, a, "1024 http://a;always=0, 2050 http://c;always=v")
	holds(t, b, "2048 http://b;always=z, 2049 never;http://c=x, 2050 http://b;always=y, 1027 http://a;always=3")

	// A copy of the copy.
	c := b.Copy()
	drops(t, b, 2048, 2049, 2050, 1027)
	holds(t, b, "")
	holds(t, c, "2048 http://b;always=z, 2049 never;http://c=x, 2050 http://b;always=y, 1027 http://a;always=3")
}

// Copies of a table of nothing, and of a full one.
func TestCopyOfNoneAndAll(t *testing.T) {
	none := blob.New()
	apart := none.Copy()
	holds(t, apart, "")
	puts(t, apart, small(t, "http://a", "x"), 1024)
	holds(t, none, "")
	puts(t, none, small(t, "http://b", "y"), 1024)
	holds(t, apart, "1024 http://a;always=x")

	full := filled(t, 16)
	apart = full.Copy()
	holds(t, apart, told(full))
	cantPut(t, apart, blob.Blob{}, api.ErrFull)
	drops(t, apart, 1030)
	cantPut(t, full, blob.Blob{}, api.ErrFull)
	puts(t, apart, blob.Blob{}, 2054)
	cantPut(t, apart, blob.Blob{}, api.ErrFull)
	takes(t, full, 1030, small(t, "http://a", "6"))
}

// P16.1: each way on a nil table.
func TestNil(t *testing.T) {
	var tb *blob.Table
	for _, n := range []int{0, 1, api.MaxText, api.MaxText + 1} {
		cantPut(t, tb, blob.Blob{Data: make([]byte, n)}, api.ErrArg)
	}
	for _, h := range slices.Concat(askedFor(), []arena.Handle{math.MinInt, math.MaxInt}) {
		opens(t, tb, h, label.Open(), formula.Always(), "", api.ErrArg)
		opens(t, tb, h, label.Shut(), formula.Never(), "", api.ErrArg)
		if b, ok := tb.Take(h); ok || b.Data != nil || !b.Label.Same(label.Label{}) {
			t.Errorf("Take(%d): %q, %t", h, written(b), ok)
		}
		if tb.Drop(h) {
			t.Errorf("Drop(%d): true", h)
		}
	}
	holds(t, tb, "")
	if tb.Copy() != nil {
		t.Error("a copy")
	}
}
