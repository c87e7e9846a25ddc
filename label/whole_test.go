package label_test

import (
	"bytes"
	"slices"
	"strings"
	"testing"

	"cordon/api"
	"cordon/clause"
	"cordon/formula"
	"cordon/label"
)

// known are some principals, rising, out of whom the tests make all formulas and labels.
var known = []string{"closed:7", "http://a", "https://a"}

// truth: a bit a set of principals, set if a formula holds for it.
type truth uint8

// truthOf: for which sets of the first few principals known a formula holds, by the clauses that it has.
func truthOf(f formula.Formula, few int) truth {
	var all truth
	for agree := range 1 << few {
		holds := true
		for c := range f.All() {
			some := false
			for i, p := range known[:few] {
				some = some || agree>>i&1 == 1 && c.Has(p)
			}
			holds = holds && some
		}
		if holds {
			all |= 1 << agree
		}
	}
	return all
}

// everyFormula: all formulas of the first few principals known, each once.
func everyFormula(t *testing.T, few int) []formula.Formula {
	t.Helper()
	var every []formula.Formula
	sets := 1 << few
	for clauses := range 1 << sets {
		var l []clause.Clause
		for bits := range sets {
			if clauses>>bits&1 == 1 {
				l = append(l, marked(t, bits))
			}
		}
		f, e := formula.Of(l...)
		if e != api.OK {
			t.Fatalf("Of %b: %d", clauses, int(e))
		}
		if !slices.ContainsFunc(every, f.Same) {
			every = append(every, f)
		}
	}
	return every
}

// marked: the clause of the principals known whose bits are set.
func marked(t *testing.T, bits int) clause.Clause {
	t.Helper()
	var l []string
	for i, p := range known {
		if bits>>i&1 == 1 {
			l = append(l, p)
		}
	}
	c, e := clause.Of(l...)
	if e != api.OK {
		t.Fatalf("clause of %q: %d", l, int(e))
	}
	return c
}

// told is a label, and for which sets its formulas hold.
type told struct {
	l    label.Label
	s, i truth
}

// everyLabel: all labels of the first few principals known.
func everyLabel(t *testing.T, few int) []told {
	t.Helper()
	var every []told
	formulas := everyFormula(t, few)
	for _, s := range formulas {
		for _, i := range formulas {
			every = append(every, told{label.Label{S: s, I: i}, truthOf(s, few), truthOf(i, few)})
		}
	}
	return every
}

// above: may the other one flow to it? By the sets alone.
func (x told) above(y told) bool { return x.s&^y.s == 0 && y.i&^x.i == 0 }

// P9.2, of all pairs of labels of three principals: Flows, Same, Join and Meet are as the sets tell.
func TestEveryPair(t *testing.T) {
	every := everyLabel(t, 3)
	if len(every) != 20*20 { // 20 is Dedekind's number of three
		t.Fatalf("%d labels of three principals", len(every))
	}
	for _, x := range every {
		for _, y := range every {
			if x.l.Flows(y.l) != y.above(x) {
				t.Fatalf("%q flows to %q: %t", x.l.Text(), y.l.Text(), !y.above(x))
			}
			same := x.s == y.s && x.i == y.i
			if x.l.Same(y.l) != same || same != (x.l.Flows(y.l) && y.l.Flows(x.l)) {
				t.Fatalf("%q is %q: %t", x.l.Text(), y.l.Text(), !same)
			}
			join, e := x.l.Join(y.l)
			if e != api.OK || truthOf(join.S, 3) != x.s&y.s || truthOf(join.I, 3) != x.i|y.i {
				t.Fatalf("%q and %q join: %q, %d", x.l.Text(), y.l.Text(), join.Text(), int(e))
			}
			meet, e := x.l.Meet(y.l)
			if e != api.OK || truthOf(meet.S, 3) != x.s|y.s || truthOf(meet.I, 3) != x.i&y.i {
				t.Fatalf("%q and %q meet: %q, %d", x.l.Text(), y.l.Text(), meet.Text(), int(e))
			}
		}
	}
}

// P9.3, of all threes of labels of two principals: flowing goes on; to a join just what both flow to is flowed, and a meet flows just to what both are flowed from.
func TestEveryThree(t *testing.T) {
	every := everyLabel(t, 2)
	for _, x := range every {
		for _, y := range every {
			join, e1 := x.l.Join(y.l)
			meet, e2 := x.l.Meet(y.l)
			if e1 != api.OK || e2 != api.OK || !x.l.Flows(join) || !y.l.Flows(join) || !meet.Flows(x.l) || !meet.Flows(y.l) {
				t.Fatalf("%q and %q: join %q, %d, meet %q, %d", x.l.Text(), y.l.Text(), join.Text(), int(e1), meet.Text(), int(e2))
			}
			for _, z := range every {
				if x.l.Flows(y.l) && y.l.Flows(z.l) && !x.l.Flows(z.l) {
					t.Errorf("%q flows to %q, that to %q, and not", x.l.Text(), y.l.Text(), z.l.Text())
				}
				if join.Flows(z.l) != (x.l.Flows(z.l) && y.l.Flows(z.l)) {
					t.Errorf("%q isn't the least of %q and %q: %q", join.Text(), x.l.Text(), y.l.Text(), z.l.Text())
				}
				if z.l.Flows(meet) != (z.l.Flows(x.l) && z.l.Flows(y.l)) {
					t.Errorf("%q isn't the greatest of %q and %q: %q", meet.Text(), x.l.Text(), y.l.Text(), z.l.Text())
				}
			}
		}
	}
}

// Pure flows to all, and all to shut.
func TestEnds(t *testing.T) {
	for _, x := range everyLabel(t, 3) {
		if !label.Pure().Flows(x.l) || !x.l.Flows(label.Shut()) || !x.l.Flows(x.l) {
			t.Errorf("%q: pure, shut, or itself", x.l.Text())
		}
		if x.l.Flows(label.Pure()) != x.l.Same(label.Pure()) || label.Shut().Flows(x.l) != x.l.Same(label.Shut()) {
			t.Errorf("%q: to pure, or from shut", x.l.Text())
		}
	}
}

// P9.3 beyond a few principals: joins and meets stand to what they are of as they must.
func TestLaws(t *testing.T) {
	var l []label.Label
	formulas := []string{"always", "never", all(10, 14), some(10, 14), some(10, 14) + " & " + some(12, 16) + " & https://a", all(20, 22) + " & closed:7"}
	for _, s := range formulas {
		for _, i := range formulas {
			l = append(l, pair(t, s, i))
		}
	}
	for _, x := range l {
		for _, y := range l {
			join, e1 := x.Join(y)
			meet, e2 := x.Meet(y)
			if e1 != api.OK || e2 != api.OK {
				t.Fatalf("%q, %q: %d, %d", x.Text(), y.Text(), int(e1), int(e2))
			}
			if x.Flows(y) != join.Same(y) || x.Flows(y) != meet.Same(x) || x.Same(y) != (x.Flows(y) && y.Flows(x)) || !meet.Flows(join) {
				t.Errorf("%q, %q: join %q, meet %q", x.Text(), y.Text(), join.Text(), meet.Text())
			}
			back, e1 := join.Meet(x)
			forth, e2 := meet.Join(x)
			if e1 != api.OK || e2 != api.OK || !back.Same(x) || !forth.Same(x) {
				t.Errorf("%q, %q: back %q, %d, forth %q, %d", x.Text(), y.Text(), back.Text(), int(e1), forth.Text(), int(e2))
			}
		}
	}
}

// P9.1: a label's text is parsed to it.
func TestTextsOfLabels(t *testing.T) {
	labels := []label.Label{pair(t, all(10, 26), some(10, 26)), pair(t, some(10, 26), all(10, 26)), pair(t, some(10, 20)+"&"+some(15, 25), "closed:9223372036854775807")}
	for _, x := range everyLabel(t, 3) {
		labels = append(labels, x.l)
	}
	for _, l := range labels {
		again, e := label.Parse([]byte(l.Text()))
		if e != api.OK || !again.Same(l) || again.Text() != l.Text() {
			t.Errorf("Parse(%.80q): %.80q, %d", l.Text(), again.Text(), int(e))
		}
	}
}

// named: the text of the formula by which principals agree, each of that many bytes and of a letter of its own.
func named(letters string, length int) string {
	var l []string
	for i := range len(letters) {
		part := strings.Repeat(letters[i:i+1], api.MaxPart) + "."
		l = append(l, "http://"+strings.Repeat(part, 4)[:length-len("http://")])
	}
	return strings.Join(l, " & ")
}

// A text is told whole, and parsed up to MaxText bytes; that of two formulas of fewer bytes may have more.
func TestTextsOfLongLabels(t *testing.T) {
	s, i := named("abcdefgh", 200), named("abcdefghijk", 200)+" & "
	room := api.MaxText - len(s) - len(" ; ") - len(i)
	just, more := pair(t, s, i+named("z", room)), pair(t, s, i+named("z", room+1))
	if len(just.Text()) != api.MaxText || len(more.Text()) != api.MaxText+1 {
		t.Fatalf("texts of %d and %d bytes", len(just.Text()), len(more.Text()))
	}
	parses(t, just.Text(), s, i+named("z", room))
	is(t, "of a text of one byte more", more, s, i+named("z", room+1))
	refused(t, more.Text(), api.ErrLong)
	joins(t, more, label.Open(), s, "always")
	joins(t, more, label.Pure(), s, i+named("z", room+1))
	joins(t, label.Label{S: more.I}, more, i+named("z", room+1), "always")
}

// labelText: the text of the label that a text is, by the chapter's words.
func labelText(text string) (string, api.Errno) {
	pieces := strings.Split(text, ";")
	if len(pieces) > 2 {
		return "always ; always", api.ErrForm
	}
	s, e := formula.Parse([]byte(pieces[0]))
	if e != api.OK {
		return "always ; always", e
	}
	if len(pieces) == 1 {
		return s.Text() + " ; always", api.OK
	}
	i, e := formula.Parse([]byte(pieces[1]))
	if e != api.OK {
		return "always ; always", e
	}
	return s.Text() + " ; " + i.Text(), api.OK
}

// P9.1 once more, of many texts that are labels', or nearly.
func TestManyTexts(t *testing.T) {
	pieces := []string{"", " ", ";", "&", "|", "http://a", "closed:7", "never", "always", some(10, 27)}
	l := []string{""}
	for range 4 {
		var longer []string
		for _, text := range l {
			for _, piece := range pieces {
				longer = append(longer, text+piece)
			}
		}
		slices.Sort(longer)
		l = slices.Compact(longer)
	}
	for _, text := range l {
		want, errno := labelText(text)
		got, e := label.Parse([]byte(text))
		if e != errno || got.Text() != want {
			t.Errorf("Parse(%.200q): %.200q, %d, not %.200q, %d", text, got.Text(), int(e), want, int(errno))
		}
	}
}

// R1: any text, any bytes.

func TestAnything(t *testing.T) {
	for _, in := range []string{"\x00", "\xff;\xfe", strings.Repeat("\xff", api.MaxText), strings.Repeat(" ;", api.MaxText/2), "http://a;\x00", "http://a\x00;http://b", "\x00;always", "always;\x80"} {
		refused(t, in, api.ErrForm)
		l, e := label.Of(in)
		nothing(t, "Of", l, e, api.ErrForm)
	}
	refused(t, strings.Repeat("always", 1<<18), api.ErrLong)
	refused(t, strings.Repeat(";", 1<<20), api.ErrLong)
	l, e := label.Parse(nil)
	nothing(t, "Parse of nil", l, e, api.ErrForm)
	l, e = label.Parse([]byte{})
	nothing(t, "Parse of no bytes", l, e, api.ErrForm)
}

// R4: memory.

func TestParseKeepsNothing(t *testing.T) {
	for _, text := range []string{"", "always", " never ", "http://a", "http://b&http://a ; http://c|http://d", " closed:7 ;never", "http://a;", ";", "http://a;http://b;", "http://a;x", "x;http://a"} {
		memory := []byte("<" + text + ";http://room;")
		in := memory[1 : 1+len(text)]
		before := bytes.Clone(memory)
		want, errno := label.Parse([]byte(text))
		l, e := label.Parse(in)
		if !bytes.Equal(memory, before) {
			t.Errorf("Parse(%q) changes what is handed in: %q", text, memory)
		}
		for i := range memory {
			memory[i] = '!'
		}
		if e != errno || !l.Same(want) || l.Text() != want.Text() {
			t.Errorf("Parse(%q) in a text that changed since: %q, %d", text, l.Text(), int(e))
		}
	}
}

// What is made of labels changes none of them, and a label whose formulas are replaced changes no other one.
func TestLabelsStay(t *testing.T) {
	l, o := pair(t, "http://b & http://d", "http://c | http://e"), pair(t, "http://a & http://d", "http://c")
	copied := l
	join, _ := l.Join(o)
	meet, _ := l.Meet(o)
	wider, _ := join.Join(pair(t, "http://z", "http://y"))
	withOpen, _ := l.Join(label.Open())
	withItself, _ := l.Meet(l)
	for _, x := range []*label.Label{&withOpen, &withItself} {
		x.S, x.I = formula.Never(), formula.Never()
	}
	for _, x := range []label.Label{l, o, join, meet, wider} {
		for _, f := range []formula.Formula{x.S, x.I} {
			clear(slices.Collect(f.All()))
		}
	}
	is(t, "the one", l, "http://b & http://d", "http://c | http://e")
	is(t, "its copy", copied, "http://b & http://d", "http://c | http://e")
	is(t, "the other one", o, "http://a & http://d", "http://c")
	is(t, "Join", join, "http://a & http://b & http://d", "http://c | http://e")
	is(t, "Meet", meet, "http://a | http://b & http://d", "http://c")
	is(t, "a wider Join", wider, "http://a & http://b & http://d & http://z", "http://c | http://e | http://y")
	is(t, "Open", label.Open(), "always", "always")
}
