package clause_test

import (
	"bytes"
	"slices"
	"strings"
	"testing"

	"cordon/api"
	"cordon/clause"
	"cordon/origin"
)

// known are some principals, rising, out of which the tests make all clauses.
var known = []string{"closed:1099511627776", "closed:7", "http://1.2.3.4:8080", "http://a", "http://a.org", "https://a"}

// marked: the principals whose bits are set, not in their order.
func marked(bits int) []string {
	var l []string
	for i := range known {
		if x := (i*5 + 2) % len(known); bits>>x&1 == 1 {
			l = append(l, known[x])
		}
	}
	return l
}

// bitsOf: the other way round.
func bitsOf(t *testing.T, c clause.Clause) int {
	t.Helper()
	bits := 0
	for p := range c.All() {
		i := slices.Index(known, p)
		if i < 0 || bits>>i != 0 {
			t.Errorf("%q has %q, out of order or not at all", c.Text(), p)
		}
		bits |= 1 << max(i, 0)
	}
	return bits
}

// P7.1 and P7.2 once more, of all clauses of some principals, by bits: a clause holds for those who agree, if one of them is of it.
func TestSmallClauses(t *testing.T) {
	for a := range 1 << len(known) {
		c := of(t, marked(a)...)
		if bitsOf(t, c) != a || c.Len() != len(marked(a)) {
			t.Errorf("Of %q: %q", marked(a), c.Text())
		}
		for i, p := range known {
			if c.Has(p) != (a>>i&1 == 1) {
				t.Errorf("%q has %q: %t", c.Text(), p, c.Has(p))
			}
		}
		for b := range 1 << len(known) {
			o := of(t, marked(b)...)
			implies := true
			for agree := range 1 << len(known) {
				implies = implies && (a&agree == 0 || b&agree != 0)
			}
			if c.Implies(o) != implies {
				t.Errorf("%q implies %q: %t", c.Text(), o.Text(), !implies)
			}
			e, errno := c.Either(o)
			if errno != api.OK || bitsOf(t, e) != a|b {
				t.Errorf("%q or %q: %q, %d", c.Text(), o.Text(), e.Text(), int(errno))
			}
			if got, want := c.Cmp(o), slices.Compare(slices.Sorted(slices.Values(marked(a))), slices.Sorted(slices.Values(marked(b)))); got != want {
				t.Errorf("Cmp of %q and %q: %d", c.Text(), o.Text(), got)
			}
		}
	}
}

// P7.3

// isWhole: a clause's text is parsed to it, and what its All tells makes it again.
func isWhole(t *testing.T, c clause.Clause) {
	t.Helper()
	all := slices.Collect(c.All())
	again, e := clause.Parse([]byte(c.Text()))
	if e != api.OK || again.Cmp(c) != 0 {
		t.Errorf("Parse(%.80q): %.80q, %d", c.Text(), again.Text(), int(e))
	}
	holds(t, "the clause of a clause's text", again, all...)
	holds(t, "the clause of a clause's principals", of(t, reversed(all)...), all...)
}

func TestTextsOfClauses(t *testing.T) {
	isWhole(t, clause.Clause{})
	for bits := range 1 << len(known) {
		isWhole(t, of(t, marked(bits)...))
	}
	for n := 10; n <= 10+api.MaxClause; n++ {
		isWhole(t, of(t, numbered(10, n)...))
	}
	isWhole(t, of(t, "closed:1099511627777", "closed:9223372036854775807"))
}

// longest: a principal that is as long as one can be, and unlike that of another letter.
func longest(letter byte) string {
	part := strings.Repeat(string([]byte{letter}), api.MaxPart) + "."
	return "https://" + strings.Repeat(part, 3) + strings.Repeat("x", api.MaxHost-3*len(part)) + ":65535"
}

// A text is parsed up to MaxText bytes; longer ones there are, of many long principals.
func TestTextsOfLongPrincipals(t *testing.T) {
	var long []string
	for i := range api.MaxClause {
		long = append(long, longest("abcdefghijklmnop"[i]))
	}
	c := of(t, long...)
	holds(t, "Of 16 of the longest", c, long...)
	refused(t, c.Text(), api.ErrLong)

	c = of(t, long[1:]...)
	isWhole(t, c)
	room := api.MaxText - len(c.Text()) - len(" | http://")
	just := of(t, append(long[1:], "http://"+strings.Repeat("y", room))...)
	more := of(t, append(long[1:], "http://"+strings.Repeat("y", room+1))...)
	isWhole(t, just)
	if len(just.Text()) != api.MaxText {
		t.Errorf("a text of %d bytes", len(just.Text()))
	}
	refused(t, more.Text(), api.ErrLong)
	joined, e := c.Either(of(t, long[0]))
	if e != api.OK || joined.Len() != api.MaxClause {
		t.Errorf("Either of the longest: %d, %d", joined.Len(), int(e))
	}
}

// Both of two clauses imply their Either; never implies all.
func TestEitherIsImplied(t *testing.T) {
	for a := range 1 << len(known) {
		c := of(t, marked(a)...)
		if !(clause.Clause{}).Implies(c) || !c.Implies(c) {
			t.Errorf("never, or it, doesn't imply %q", c.Text())
		}
		for b := range 1 << len(known) {
			o := of(t, marked(b)...)
			e, errno := c.Either(o)
			if errno != api.OK || !c.Implies(e) || !o.Implies(e) {
				t.Errorf("%q and %q don't imply %q, %d", c.Text(), o.Text(), e.Text(), int(errno))
			}
		}
	}
	full, half := of(t, numbered(10, 26)...), of(t, numbered(18, 26)...)
	e, _ := half.Either(full)
	if !full.Implies(e) || !half.Implies(e) || !(clause.Clause{}).Implies(full) {
		t.Error("16 principals: Either isn't implied")
	}
}

// clauseText: the text of the clause that a text is, by the chapter's words.
func clauseText(text string) (string, api.Errno) {
	if strings.Trim(text, " \t") == "never" {
		return "never", api.OK
	}
	l := strings.Split(text, "|")
	for i := range l {
		l[i] = strings.Trim(l[i], " \t")
		if !origin.Principal(l[i]) {
			return "never", api.ErrForm
		}
	}
	slices.Sort(l)
	return strings.Join(slices.Compact(l), " | "), api.OK
}

// P7.1 once more, of many texts that are clauses', or nearly.
func TestManyTexts(t *testing.T) {
	pieces := []string{"", " ", "\t", "|", "http://a", "closed:7", "never", "x", "\n"}
	l := []string{""}
	for range 5 {
		var longer []string
		for _, text := range l {
			for _, piece := range pieces {
				longer = append(longer, text+piece)
			}
		}
		slices.Sort(longer)
		l = slices.Compact(longer)
	}
	for _, text := range l {
		want, errno := clauseText(text)
		c, e := clause.Parse([]byte(text))
		if e != errno || c.Text() != want || e != api.OK && c.Len() != 0 {
			t.Errorf("Parse(%q): %q, %d, not %q, %d", text, c.Text(), int(e), want, int(errno))
		}
	}
}

// R1: any text, any bytes.

func TestAnything(t *testing.T) {
	for _, in := range []string{"\x00", "\xff|\xfe", strings.Repeat("\xff", api.MaxText), strings.Repeat(" |", api.MaxText/2), "http://a|\x00", "http://a\x00|http://b"} {
		refused(t, in, api.ErrForm)
		refusedOf(t, api.ErrForm, in)
	}
	refused(t, strings.Repeat("never", 1<<18), api.ErrLong)
	refusedOf(t, api.ErrForm, strings.Repeat("http://a|", 1<<18))
	refusedOf(t, api.ErrForm, make([]string, 1<<16)...)
	if c, e := clause.Parse(nil); e != api.ErrForm || c.Len() != 0 {
		t.Errorf("Parse(nil): %q, %d", c.Text(), int(e))
	}
	if of(t, "http://a").Has(strings.Repeat("http://a", 1<<18)) {
		t.Error("Has of a long text")
	}
}

// R4: memory.

func TestParseKeepsNothing(t *testing.T) {
	for _, text := range []string{"", "never", " never ", "http://a", "http://b|http://a", " closed:7 |\thttp://a ", "x", "http://a|", "http://a|x"} {
		memory := []byte("<" + text + "|http://room")
		in := memory[1 : 1+len(text)]
		before := bytes.Clone(memory)
		want, errno := clause.Parse([]byte(text))
		c, e := clause.Parse(in)
		if !bytes.Equal(memory, before) {
			t.Errorf("Parse(%q) changes what is handed in: %q", text, memory)
		}
		for i := range memory {
			memory[i] = '!'
		}
		if e != errno || c.Cmp(want) != 0 || c.Text() != want.Text() {
			t.Errorf("Parse(%q) in a text that changed since: %q, %d", text, c.Text(), int(e))
		}
	}
}

func TestOfKeepsNothing(t *testing.T) {
	for _, l := range [][]string{{"http://b", "http://a", "http://b", "closed:7"}, reversed(numbered(10, 26)), append(reversed(numbered(10, 27)), "x"), reversed(numbered(10, 27))} {
		memory := append(slices.Clone(l), "http://room", "http://more")
		before := slices.Clone(memory)
		want, errno := clause.Of(slices.Clone(l)...)
		c, e := clause.Of(memory[:len(l)]...)
		if !slices.Equal(memory, before) {
			t.Errorf("Of changes what is handed in: %q", memory)
		}
		all := c.All()
		clear(memory)
		if e != errno || c.Cmp(want) != 0 || !slices.Equal(slices.Collect(all), slices.Collect(want.All())) {
			t.Errorf("Of a list that changed since: %q, %d", c.Text(), int(e))
		}
	}
}

// What is made of clauses changes none of them, and copies are the same.
func TestClausesStay(t *testing.T) {
	c, o := of(t, "http://a", "http://c"), of(t, "http://b", "http://d")
	copied, all := c, c.All()
	first, _ := c.Either(o)
	second, _ := c.Either(of(t, "http://z"))
	for _, x := range []clause.Clause{c, o, first, second} {
		l := slices.Collect(x.All())
		clear(l)
	}
	holds(t, "the one", c, "http://a", "http://c")
	holds(t, "its copy", copied, "http://a", "http://c")
	holds(t, "the other one", o, "http://b", "http://d")
	holds(t, "their Either", first, "http://a", "http://b", "http://c", "http://d")
	holds(t, "another Either", second, "http://a", "http://c", "http://z")
	if !slices.Equal(slices.Collect(all), []string{"http://a", "http://c"}) {
		t.Error("an iterator tells otherwise than when it was asked for")
	}
}
