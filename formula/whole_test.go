package formula_test

import (
	"bytes"
	"slices"
	"strconv"
	"strings"
	"testing"

	"cordon/api"
	"cordon/clause"
	"cordon/formula"
)

// known are some principals, rising, out of whom the tests make all clauses and formulas.
var known = []string{"closed:7", "http://a", "http://a-b", "https://a"}

// sets is of how many principals known there are sets; each is told by bits.
const sets = 1 << 4

// truth: a bit a set of principals, set if something holds for it.
type truth uint16

// marked: the clause of the principals whose bits are set.
func marked(t *testing.T, bits int) clause.Clause {
	t.Helper()
	var l []string
	for i, p := range known {
		if bits>>i&1 == 1 {
			l = append(l, p)
		}
	}
	c, e := clause.Of(l...)
	if e != api.OK {
		t.Fatalf("clause of %q: %d", l, int(e))
	}
	return c
}

// truthOf: for which sets a formula of principals known holds, by what it has: each of its clauses has one of these.
func truthOf(f formula.Formula) truth {
	var all truth
	for agree := range sets {
		holds := true
		for c := range f.All() {
			some := false
			for i, p := range known {
				some = some || agree>>i&1 == 1 && c.Has(p)
			}
			holds = holds && some
		}
		if holds {
			all |= 1 << agree
		}
	}
	return all
}

// truthOfClauses: for which sets the clauses hold, a bit a clause.
func truthOfClauses(clauses int) truth {
	var all truth
	for agree := range sets {
		holds := true
		for c := range sets {
			holds = holds && (clauses>>c&1 == 0 || agree&c != 0)
		}
		if holds {
			all |= 1 << agree
		}
	}
	return all
}

// isReduced: no clause implies another one, and they stand in order.
func isReduced(t *testing.T, f formula.Formula) {
	t.Helper()
	all := slices.Collect(f.All())
	for i, c := range all {
		for j, d := range all {
			if i != j && c.Implies(d) {
				t.Errorf("%q: %q implies %q", f.Text(), c.Text(), d.Text())
			}
			if i < j && c.Cmp(d) >= 0 {
				t.Errorf("%q: %q isn't below %q", f.Text(), c.Text(), d.Text())
			}
		}
	}
}

// everyFormula: all formulas of principals known, each once, by what they hold for.
func everyFormula(t *testing.T) map[truth]formula.Formula {
	t.Helper()
	every := map[truth]formula.Formula{}
	for clauses := range 1 << sets {
		want := truthOfClauses(clauses)
		if _, found := every[want]; found {
			continue
		}
		var l []clause.Clause
		for c := range sets {
			if clauses>>c&1 == 1 {
				l = append(l, marked(t, c))
			}
		}
		f, e := formula.Of(l...)
		if e != api.OK || truthOf(f) != want {
			t.Fatalf("Of %b: %q, %d", clauses, f.Text(), int(e))
		}
		isReduced(t, f)
		every[want] = f
	}
	if len(every) != 168 { // Dedekind's number of four
		t.Fatalf("%d formulas of four principals", len(every))
	}
	return every
}

// P8.1 and P8.3: of all lists of some clauses, the formula is reduced, holds where they do, and is the same as all that hold there.
func TestEveryList(t *testing.T) {
	every := everyFormula(t)
	for clauses := range 1 << sets {
		var l []clause.Clause
		for i := range sets {
			if c := (i*5 + clauses) % sets; clauses>>c&1 == 1 {
				l = append(l, marked(t, c))
			}
		}
		f, e := formula.Of(l...)
		if e != api.OK || !f.Same(every[truthOfClauses(clauses)]) {
			t.Fatalf("Of %b: %q, %d", clauses, f.Text(), int(e))
		}
		isReduced(t, f)
	}
}

// P8.2 and P8.3: Implies, And, Or, Less and Same of all formulas of some principals are held against all sets of these.
func TestEveryPair(t *testing.T) {
	every := everyFormula(t)
	for a, f := range every {
		for b, o := range every {
			if f.Implies(o) != (a&^b == 0) {
				t.Errorf("%q implies %q: %t", f.Text(), o.Text(), a&^b != 0)
			}
			if f.Same(o) != (a == b) {
				t.Errorf("%q is %q: %t", f.Text(), o.Text(), a != b)
			}
			and, e := f.And(o)
			if e != api.OK || truthOf(and) != a&b || !and.Same(every[a&b]) {
				t.Errorf("%q and %q: %q, %d", f.Text(), o.Text(), and.Text(), int(e))
			}
			or, e := f.Or(o)
			if e != api.OK || truthOf(or) != a|b || !or.Same(every[a|b]) {
				t.Errorf("%q or %q: %q, %d", f.Text(), o.Text(), or.Text(), int(e))
			}
			var left []string
			for c := range f.All() {
				if x, _ := formula.Of(c); b&^truthOf(x) != 0 {
					left = append(left, c.Text())
				}
			}
			if got := f.Less(o); !slices.Equal(textsOf(got), left) {
				t.Errorf("%q less %q: %q", f.Text(), o.Text(), got.Text())
			}
		}
	}
}

// P8.3: a formula's text is parsed to it, and its clauses make it again.
func TestTextsOfFormulas(t *testing.T) {
	all := []formula.Formula{formula.Always(), formula.Never(), of(t, wide(10, 26), wide(20, 36), "closed:9223372036854775807")}
	for _, f := range everyFormula(t) {
		all = append(all, f)
	}
	for n := 10; n <= 10+api.MaxFormula; n++ {
		all = append(all, of(t, numbered(10, n)...))
	}
	for _, f := range all {
		again, e := formula.Parse([]byte(f.Text()))
		if e != api.OK || !again.Same(f) || again.Text() != f.Text() {
			t.Errorf("Parse(%.80q): %.80q, %d", f.Text(), again.Text(), int(e))
		}
		again, e = formula.Of(slices.Collect(f.All())...)
		if e != api.OK || !again.Same(f) {
			t.Errorf("Of the clauses of %.80q: %.80q, %d", f.Text(), again.Text(), int(e))
		}
	}
}

// name: a principal of that many bytes, of one letter.
func name(letter byte, length int) string {
	part := strings.Repeat(string([]byte{letter}), api.MaxPart) + "."
	return "http://" + strings.Repeat(part, 4)[:length-len("http://")]
}

// textOf: a formula whose text has that many bytes.
func textOf(t *testing.T, length int) formula.Formula {
	t.Helper()
	var l []string
	for i := range api.MaxFormula - 1 {
		l = append(l, name("abcdefghijklmno"[i], len("http://")+api.MaxHost))
	}
	room := length - len(strings.Join(l, " & ")) - len(" & ")
	f := of(t, append(l, name('z', room))...)
	if len(f.Text()) != length {
		t.Fatalf("a text of %d bytes, not %d", len(f.Text()), length)
	}
	return f
}

// A text is parsed up to MaxText bytes; longer ones there are, of many long clauses.
func TestTextsOfLongFormulas(t *testing.T) {
	just, more := textOf(t, api.MaxText), textOf(t, api.MaxText+1)
	parses(t, just.Text(), textsOf(just)...)
	refused(t, more.Text(), api.ErrLong)
	both(t, "And", formula.Formula.And, more, of(t, textsOf(more)[:8]...), textsOf(more)...)

	var many []string
	for n := range api.MaxFormula {
		var l []string
		for i := range api.MaxClause {
			l = append(l, name("abcdefghijklmnopqrstuvwxyz"[i], 220+n))
		}
		many = append(many, strings.Join(l, " | "))
	}
	var parts []clause.Clause
	for _, text := range many {
		parts = append(parts, one(t, text))
	}
	f, e := formula.Of(parts...)
	if e != api.OK || f.Len() != api.MaxFormula || len(f.Text()) < 50000 || f.Principals().Len() != api.MaxFormula*api.MaxClause {
		t.Errorf("16 clauses of 16 long principals: %d, %d bytes, %d", f.Len(), len(f.Text()), int(e))
	}
	refused(t, f.Text(), api.ErrLong)
}

// P8.3 beyond a few principals: what And and Or tell stands to what they were told as it must.
func TestLaws(t *testing.T) {
	all := []formula.Formula{
		formula.Always(), formula.Never(), of(t, "http://p12"), of(t, wide(10, 14)), of(t, wide(10, 14), wide(12, 16)),
		of(t, wide(10, 14), wide(20, 22), "https://a"), of(t, wide(20, 23), "closed:7"), of(t, "http://p10", "http://p11", wide(12, 15)),
	}
	for _, f := range all {
		if !formula.Never().Implies(f) || !f.Implies(formula.Always()) || !f.Implies(f) || f.Less(f).Len() != 0 {
			t.Errorf("%q: never, always, or itself", f.Text())
		}
		for _, o := range all {
			and, e1 := f.And(o)
			or, e2 := f.Or(o)
			left, e3 := f.Less(o).And(o)
			if e1 != api.OK || e2 != api.OK || e3 != api.OK {
				t.Fatalf("%q, %q: %d, %d, %d", f.Text(), o.Text(), int(e1), int(e2), int(e3))
			}
			if !and.Implies(f) || !and.Implies(o) || !f.Implies(or) || !o.Implies(or) {
				t.Errorf("%q, %q: and %q, or %q", f.Text(), o.Text(), and.Text(), or.Text())
			}
			if !left.Same(and) {
				t.Errorf("%q less %q, with that again: %q, not %q", f.Text(), o.Text(), left.Text(), and.Text())
			}
			if f.Implies(o) != and.Same(f) || f.Implies(o) != or.Same(o) || f.Same(o) != (f.Implies(o) && o.Implies(f)) {
				t.Errorf("%q, %q: Implies doesn't go with And and Or", f.Text(), o.Text())
			}
			isReduced(t, and)
			isReduced(t, or)
		}
	}
}

// formulaText: the text of the formula that a text is, by the chapter's words.
func formulaText(text string) (string, api.Errno) {
	if strings.Trim(text, " \t") == "always" {
		return "always", api.OK
	}
	var l []clause.Clause
	for _, piece := range strings.Split(text, "&") {
		c, e := clause.Parse([]byte(piece))
		if e != api.OK {
			return "always", e
		}
		l = append(l, c)
	}
	var left []string
	slices.SortFunc(l, clause.Clause.Cmp)
	for _, c := range l {
		implied := slices.ContainsFunc(l, func(d clause.Clause) bool { return d.Implies(c) && d.Cmp(c) != 0 })
		if !implied && !slices.Contains(left, c.Text()) {
			left = append(left, c.Text())
		}
	}
	return strings.Join(left, " & "), api.OK
}

// P8.1 once more, of many texts that are formulas', or nearly.
func TestManyTexts(t *testing.T) {
	pieces := []string{"", " ", "&", "|", "http://a", "closed:7", "never", "always"}
	l := []string{""}
	for range 5 {
		var longer []string
		for _, text := range l {
			for _, piece := range pieces {
				longer = append(longer, text+piece)
			}
		}
		slices.Sort(longer)
		l = slices.Compact(longer)
	}
	for _, text := range l {
		want, errno := formulaText(text)
		f, e := formula.Parse([]byte(text))
		if e != errno || f.Text() != want || e != api.OK && f.Len() != 0 {
			t.Errorf("Parse(%q): %q, %d, not %q, %d", text, f.Text(), int(e), want, int(errno))
		}
	}
}

// R1: any text, any bytes, any number of clauses.

func TestAnything(t *testing.T) {
	for _, in := range []string{"\x00", "\xff&\xfe", strings.Repeat("\xff", api.MaxText), strings.Repeat(" &", api.MaxText/2), "http://a&\x00", "http://a\x00&http://b"} {
		refused(t, in, api.ErrForm)
		f, e := formula.Single(in)
		nothing(t, "Single", f, e, api.ErrForm)
	}
	refused(t, strings.Repeat("always", 1<<18), api.ErrLong)
	f, e := formula.Parse(nil)
	nothing(t, "Parse of nil", f, e, api.ErrForm)
}

// Of very many clauses, none of which another one implies, too many are left; few are left, where few imply them all.
func TestVeryMany(t *testing.T) {
	var pairs []clause.Clause
	for i := range 300 {
		for j := range 300 {
			c, e := clause.Of("http://a"+strconv.Itoa(i), "http://b"+strconv.Itoa(j))
			if e != api.OK {
				t.Fatal(int(e))
			}
			pairs = append(pairs, c)
		}
	}
	f, e := formula.Of(pairs...)
	nothing(t, "Of many pairs", f, e, api.ErrLong)
	f, e = formula.Of(append(pairs, clause.Clause{})...)
	if e != api.OK || !f.Same(formula.Never()) {
		t.Errorf("Of many pairs, and never: %q, %d", f.Text(), int(e))
	}
	f, e = formula.Of(append(pairs[:300], one(t, "http://a0"))...)
	if e != api.OK || f.Text() != "http://a0" {
		t.Errorf("Of many pairs, and what is in all: %q, %d", f.Text(), int(e))
	}
	f, e = formula.Of(slices.Repeat(pairs[:16], 10000)...)
	if e != api.OK || f.Len() != 16 {
		t.Errorf("Of 16 pairs, often: %d, %d", f.Len(), int(e))
	}
}

// R4: memory.

func TestParseKeepsNothing(t *testing.T) {
	for _, text := range []string{"", "always", " always ", "never", "http://a", "http://b&http://a", " closed:7 |http://b&\thttp://a ", "x", "http://a&", "http://a&x"} {
		memory := []byte("<" + text + "&http://room")
		in := memory[1 : 1+len(text)]
		before := bytes.Clone(memory)
		want, errno := formula.Parse([]byte(text))
		f, e := formula.Parse(in)
		if !bytes.Equal(memory, before) {
			t.Errorf("Parse(%q) changes what is handed in: %q", text, memory)
		}
		for i := range memory {
			memory[i] = '!'
		}
		if e != errno || !f.Same(want) || f.Text() != want.Text() {
			t.Errorf("Parse(%q) in a text that changed since: %q, %d", text, f.Text(), int(e))
		}
	}
}

// textsOfClauses: the texts of a list's clauses.
func textsOfClauses(l []clause.Clause) []string {
	var texts []string
	for _, c := range l {
		texts = append(texts, c.Text())
	}
	return texts
}

func TestOfKeepsNothing(t *testing.T) {
	for _, texts := range [][]string{nil, {"http://a"}, {"http://c | http://d", "http://b", "http://a", "http://b"}, {"http://a | http://b", "http://a", "never"}, reversed(numbered(10, 26)), reversed(numbered(10, 27))} {
		memory := clauses(t, append(slices.Clone(texts), "http://room | http://z", "http://more")...)
		before := textsOfClauses(memory)
		want, errno := formula.Of(clauses(t, texts...)...)
		f, e := formula.Of(memory[:len(texts)]...)
		if !slices.Equal(textsOfClauses(memory), before) {
			t.Errorf("Of changes what is handed in: %q", textsOfClauses(memory))
		}
		all := f.All()
		clear(memory)
		if e != errno || !f.Same(want) || f.Text() != want.Text() || !slices.Equal(textsOfClauses(slices.Collect(all)), textsOf(want)) {
			t.Errorf("Of a list that changed since: %q, %d", f.Text(), int(e))
		}
	}
}

// What is made of formulas changes none of them, and copies are the same.
func TestFormulasStay(t *testing.T) {
	f, o := of(t, "http://b | http://c", "http://d", "http://e"), of(t, "http://a", "http://c")
	copied, all := f, f.All()
	and, _ := f.And(o)
	or, _ := f.Or(o)
	less, second := f.Less(o), f.Less(of(t, "http://b", "http://d"))
	wider, _ := less.And(of(t, "http://z"))
	for _, x := range []formula.Formula{f, o, and, or, less, second, wider} {
		l := slices.Collect(x.All())
		clear(l)
		slices.SortFunc(append(slices.Collect(x.All()), l...), clause.Clause.Cmp)
	}
	holds(t, "the one", f, "http://b | http://c", "http://d", "http://e")
	holds(t, "its copy", copied, "http://b | http://c", "http://d", "http://e")
	holds(t, "the other one", o, "http://a", "http://c")
	holds(t, "And", and, "http://a", "http://c", "http://d", "http://e")
	holds(t, "Or", or, "http://a | http://d", "http://a | http://e", "http://b | http://c", "http://c | http://d", "http://c | http://e")
	holds(t, "Less", less, "http://d", "http://e")
	holds(t, "another Less", second, "http://e")
	holds(t, "And of a Less", wider, "http://d", "http://e", "http://z")
	if !slices.Equal(textsOfClauses(slices.Collect(all)), textsOf(f)) {
		t.Error("an iterator tells otherwise than when it was asked for")
	}
	if f.Principals().With("http://x").Len() != 5 || f.Principals().Len() != 4 {
		t.Error("a set of principals is shared")
	}
}
