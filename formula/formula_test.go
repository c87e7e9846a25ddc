package formula_test

import (
	"slices"
	"strconv"
	"strings"
	"testing"

	"cordon/api"
	"cordon/clause"
	"cordon/formula"
)

// one: the clause of a text.
func one(t *testing.T, text string) clause.Clause {
	t.Helper()
	c, e := clause.Parse([]byte(text))
	if e != api.OK {
		t.Fatalf("clause %.80q: %d", text, int(e))
	}
	return c
}

// clauses: those of some texts.
func clauses(t *testing.T, texts ...string) []clause.Clause {
	t.Helper()
	var l []clause.Clause
	for _, text := range texts {
		l = append(l, one(t, text))
	}
	return l
}

// of: the formula of some clauses' texts, that there is.
func of(t *testing.T, texts ...string) formula.Formula {
	t.Helper()
	f, e := formula.Of(clauses(t, texts...)...)
	if e != api.OK {
		t.Fatalf("Of(%.80q): %d", texts, int(e))
	}
	return f
}

// textsOf: the texts of a formula's clauses, as All tells them.
func textsOf(f formula.Formula) []string {
	var l []string
	for c := range f.All() {
		l = append(l, c.Text())
	}
	return l
}

// holds: a formula has just the clauses with these texts, by all that tells of them.
func holds(t *testing.T, what string, f formula.Formula, want ...string) {
	t.Helper()
	if got := textsOf(f); !slices.Equal(got, want) {
		t.Errorf("%s: %.200q, not %.200q", what, got, want)
	}
	if f.Len() != len(want) {
		t.Errorf("%s: Len %d, not %d", what, f.Len(), len(want))
	}
	text := strings.Join(want, " & ")
	if len(want) == 0 {
		text = "always"
	}
	if got := f.Text(); got != text {
		t.Errorf("%s: Text %.200q, not %.200q", what, got, text)
	}
}

// parses: the formula of a text has just these clauses.
func parses(t *testing.T, in string, want ...string) {
	t.Helper()
	f, e := formula.Parse([]byte(in))
	if e != api.OK {
		t.Errorf("Parse(%.80q): %d", in, int(e))
		return
	}
	holds(t, "Parse of "+strconv.Quote(short(in)), f, want...)
}

// short: a text, or its beginning.
func short(text string) string {
	if len(text) > 80 {
		return text[:80] + ".."
	}
	return text
}

// nothing: an error is as wanted, and what stands beside it is the zero value.
func nothing(t *testing.T, what string, f formula.Formula, got, want api.Errno) {
	t.Helper()
	if got != want {
		t.Errorf("%s: %d, not %d", what, int(got), int(want))
	}
	holds(t, what, f)
}

// refused: Parse answers an error.
func refused(t *testing.T, in string, want api.Errno) {
	t.Helper()
	f, e := formula.Parse([]byte(in))
	nothing(t, "Parse of "+strconv.Quote(short(in)), f, e, want)
}

// refusedOf: Of answers that too many clauses are left.
func refusedOf(t *testing.T, texts ...string) {
	t.Helper()
	f, e := formula.Of(clauses(t, texts...)...)
	nothing(t, "Of "+strconv.Itoa(len(texts)), f, e, api.ErrLong)
}

// numbered: the principals with the numbers from a one on to ahead of another one, rising (10 to 99).
func numbered(from, to int) []string {
	var l []string
	for n := from; n < to; n++ {
		l = append(l, "http://p"+strconv.Itoa(n))
	}
	return l
}

// wide: the text of the clause of such principals.
func wide(from, to int) string { return strings.Join(numbered(from, to), " | ") }

// reversed: a list in the other order.
func reversed(l []string) []string {
	l = slices.Clone(l)
	slices.Reverse(l)
	return l
}

// P8.1: Always, Never

func TestAlwaysAndNever(t *testing.T) {
	holds(t, "Always", formula.Always())
	holds(t, "the zero value", formula.Formula{})
	holds(t, "Of none", of(t))
	holds(t, "Never", formula.Never(), "never")
	holds(t, "Of never", of(t, "never"), "never")
	f, e := formula.Of([]clause.Clause(nil)...)
	nothing(t, "Of nil", f, e, api.OK)
	f, e = formula.Of([]clause.Clause{}...)
	nothing(t, "Of an empty list", f, e, api.OK)
	f, e = formula.Of(clause.Clause{})
	if e != api.OK || !f.Same(formula.Never()) {
		t.Errorf("Of the zero value of clauses: %q, %d", f.Text(), int(e))
	}
	if !(formula.Formula{}).Same(formula.Always()) || formula.Always().Same(formula.Never()) {
		t.Error("the zero value isn't always, or never is")
	}
}

// P8.1: Of

func TestOf(t *testing.T) {
	holds(t, "Of one", of(t, "http://a"), "http://a")
	holds(t, "Of two", of(t, "http://b", "http://a"), "http://a", "http://b")
	holds(t, "Of one twice", of(t, "http://a", "http://a"), "http://a")
	holds(t, "Of one twice among others", of(t, "http://c", "http://b | http://a", "http://c", "http://a | http://b"), "http://a | http://b", "http://c")
	holds(t, "Of closed ones", of(t, "http://a", "closed:2", "closed:10"), "closed:10", "closed:2", "http://a")
	// The order is the clauses', not their texts'.
	holds(t, "Of one that begins another one", of(t, "http://a-b", "http://a | http://b", "http://a | http://c"), "http://a | http://b", "http://a | http://c", "http://a-b")
	holds(t, "Of long ones ahead of short ones", of(t, "http://c", "http://b | http://d", "http://a | http://d | http://e"), "http://a | http://d | http://e", "http://b | http://d", "http://c")
	holds(t, "Of some that meet", of(t, "http://b | http://c", "http://a | http://c", "http://a | http://b"), "http://a | http://b", "http://a | http://c", "http://b | http://c")
}

// What another one implies is left out, whichever stands ahead.
func TestOfImplied(t *testing.T) {
	for _, c := range []struct{ of, want []string }{
		{[]string{"http://a", "http://a | http://b"}, []string{"http://a"}},
		{[]string{"http://b", "http://a | http://b"}, []string{"http://b"}},
		{[]string{"http://a", "http://b", "http://a | http://b"}, []string{"http://a", "http://b"}},
		{[]string{"http://a", "http://a | http://b", "http://a | http://b | http://c"}, []string{"http://a"}},
		{[]string{"http://a | http://c", "http://a | http://b", "http://a | http://b | http://c"}, []string{"http://a | http://b", "http://a | http://c"}},
		{[]string{"http://a | http://b", "http://b | http://c", "http://c | http://d", "http://b"}, []string{"http://b", "http://c | http://d"}},
		{[]string{"http://b", "http://a | http://c", "http://a | http://b | http://c"}, []string{"http://a | http://c", "http://b"}},
		{[]string{"never", "http://a"}, []string{"never"}},
		{[]string{"never", "http://a | http://b", "http://c"}, []string{"never"}},
		{[]string{"never", "never", "closed:7"}, []string{"never"}},
	} {
		for range len(c.of) {
			holds(t, "Of "+strings.Join(c.of, ", "), of(t, c.of...), c.want...)
			holds(t, "Of, reversed, "+strings.Join(c.of, ", "), of(t, reversed(c.of)...), c.want...)
			c.of = append(c.of[1:], c.of[0])
		}
	}
}

func TestOfMany(t *testing.T) {
	all, more := numbered(10, 10+api.MaxFormula), numbered(10, 11+api.MaxFormula)
	holds(t, "Of 16", of(t, all...), all...)
	holds(t, "Of 16, falling", of(t, reversed(all)...), all...)
	holds(t, "Of 16, often", of(t, slices.Repeat(reversed(all), 100)...), all...)
	refusedOf(t, more...)
	refusedOf(t, reversed(more)...)
	refusedOf(t, slices.Repeat(more, 3)...)
	refusedOf(t, append(slices.Clone(all), "http://a | http://b")...)
	refusedOf(t, append([]string{"http://a | http://b"}, all...)...)
	refusedOf(t, numbered(10, 100)...)

	// More of which 16 are left.
	var implied []string
	for i, p := range all {
		implied = append(implied, p+" | "+all[(i+1)%len(all)], p+" | http://z", "closed:1 | "+p+" | https://a")
	}
	holds(t, "Of 16 and what they imply", of(t, append(slices.Clone(all), implied...)...), all...)
	holds(t, "Of 16 behind what they imply", of(t, append(slices.Clone(implied), reversed(all)...)...), all...)
	refusedOf(t, append(slices.Clone(implied), more...)...)
	refusedOf(t, implied...)

	// Too many till one that implies them comes.
	holds(t, "Of 17, and never", of(t, append(slices.Clone(more), "never")...), "never")
	holds(t, "Of never, and 17", of(t, append([]string{"never"}, more...)...), "never")
	var pairs []string
	for _, p := range numbered(20, 99) {
		pairs = append(pairs, "http://p10 | "+p)
	}
	holds(t, "Of pairs, and their meet", of(t, append(pairs, "http://p10")...), "http://p10")
	refusedOf(t, pairs...)
}

// P8.1: Single

func TestSingle(t *testing.T) {
	for _, p := range []string{"http://a", "https://a.b.org:8080", "http://1.2.3.4", "closed:7", "closed:9223372036854775807"} {
		f, e := formula.Single(p)
		if e != api.OK {
			t.Errorf("Single(%q): %d", p, int(e))
		}
		holds(t, "Single", f, p)
	}
	for _, p := range []string{"", " ", "x", "never", "always", "http://a ", " http://a", "HTTP://a", "http://a:80", "http://a/", "http://a | http://b", "http://a & http://b", "closed:0", "closed", "\x00", "\xff", "ftp://a", strings.Repeat("http://a", 1000)} {
		f, e := formula.Single(p)
		nothing(t, "Single("+strconv.Quote(short(p))+")", f, e, api.ErrForm)
	}
}

// P8.1: Parse

func TestParse(t *testing.T) {
	parses(t, "http://a & http://a | http://b", "http://a")
	parses(t, "http://a | http://b & http://a", "http://a")
	parses(t, "http://a", "http://a")
	parses(t, "http://b&http://a", "http://a", "http://b")
	parses(t, "http://b & http://a & http://b", "http://a", "http://b")
	parses(t, "http://c|http://b&http://d|http://a", "http://a | http://d", "http://b | http://c")
	parses(t, "closed:7 & http://a|closed:8 & http://a", "closed:7", "http://a")
	parses(t, "never", "never")
	parses(t, "never & never", "never")
	parses(t, "never & http://a", "never")
	parses(t, "http://a & never", "never")
	parses(t, "http://a & never & http://b | http://c", "never")
}

func TestParseBlanks(t *testing.T) {
	for _, b := range []string{"", " ", "\t", "  ", " \t ", "\t\t"} {
		parses(t, b+"always"+b)
		parses(t, b+"always")
		parses(t, "always"+b)
		parses(t, b+"never"+b, "never")
		parses(t, b+"http://b"+b+"&"+b+"http://a"+b, "http://a", "http://b")
		parses(t, "http://b"+b+"&http://a|"+b+"http://c", "http://a | http://c", "http://b")
		parses(t, b+"http://c"+b+"|"+b+"http://a"+b+"&"+b+"http://b"+b, "http://a | http://c", "http://b")
	}
	for _, other := range []string{"\n", "\r", "\r\n", "\v", "\f", "\x00", "\u00a0", "\u3000"} {
		for _, in := range []string{other, other + "always", "always" + other, other + "never", "http://a" + other, other + "http://a", "http://a" + other + "&http://b", "http://a&" + other + "http://b"} {
			refused(t, in, api.ErrForm)
		}
	}
}

func TestParseRefuses(t *testing.T) {
	for _, in := range []string{
		"", " ", "\t", "&", " & ", "&&", "&&&", "x", "x&y", "|", "|&|",
		"&http://a", "http://a&", " & http://a", "http://a & ", "&http://a&", "http://a&&http://b", "http://a & & http://b", "http://a&\t&http://b", "&never", "never&", "never &", "&always", "always&", "always &\t", " & always",
		"always & always", "always&always", "always & http://a", "http://a & always", "http://a&always&http://b", "always & never", "never & always",
		"always | http://a", "http://a | always", "never | http://a", "http://a & never | http://b", "never|never",
		"Always", "ALWAYS", "always always", "al ways", "alwaysx", "xalways", "(always)", "Never", "nevermore",
		"http://a http://b", "http://a; http://b", "http://a, http://b", "http://a and http://b", "http://a| & http://b", "http://a & |http://b", "http://a||http://b", "(http://a & http://b)", "!http://a", "http://a/", "HTTP://a", "http://a & http://A", "http://a:80 & http://b", "closed:0 & http://a", "http://a & \xff", "http://a & x", "x & http://a",
	} {
		refused(t, in, api.ErrForm)
	}
}

func TestParseMany(t *testing.T) {
	all, more := numbered(10, 10+api.MaxFormula), numbered(10, 11+api.MaxFormula)
	parses(t, strings.Join(reversed(all), "&"), all...)
	parses(t, strings.Join(slices.Repeat(all, 10), " & "), all...)
	parses(t, strings.Join(all, "|http://z & ")+" & "+strings.Join(all, " & "), all...)
	parses(t, strings.Join(more, "&")+"&never", "never")
	parses(t, wide(10, 26)+" & "+wide(20, 36), wide(10, 26), wide(20, 36))
	refused(t, strings.Join(more, "&"), api.ErrLong)
	refused(t, strings.Join(reversed(more), " & "), api.ErrLong)
}

// The first clause that has an error tells it, ahead of what is left.
func TestParseFirstError(t *testing.T) {
	long := wide(10, 27)
	more := strings.Join(numbered(10, 11+api.MaxFormula), "&")
	for in, want := range map[string]api.Errno{
		long:                                  api.ErrLong,
		long + "&x":                           api.ErrLong,
		"x&" + long:                           api.ErrForm,
		"http://a & x & " + long:              api.ErrForm,
		"http://a & " + long + " & x":         api.ErrLong,
		long + "|x & http://a":                api.ErrForm,
		"http://p10 & " + long:                api.ErrLong, // though it would be left out
		"never & " + long:                     api.ErrLong,
		"never & x":                           api.ErrForm,
		more + "&x":                           api.ErrForm,
		"x&" + more:                           api.ErrForm,
		more + "&":                            api.ErrForm,
		more + "&always":                      api.ErrForm,
		more + "&" + long:                     api.ErrLong,
		long + "&" + strings.Repeat(" ", 999): api.ErrLong,
		"&" + long:                            api.ErrForm,
	} {
		refused(t, in, want)
	}
}

// A text's length is told ahead of all else.
func TestParseLong(t *testing.T) {
	for _, c := range []struct {
		in   string
		want []string
	}{
		{"always", nil}, {"never", []string{"never"}}, {"http://a", []string{"http://a"}}, {"http://b&http://a", []string{"http://a", "http://b"}},
	} {
		blanks := strings.Repeat(" ", api.MaxText-len(c.in))
		parses(t, c.in+blanks, c.want...)
		parses(t, blanks+c.in, c.want...)
		refused(t, c.in+blanks+"\t", api.ErrLong)
		refused(t, "\t"+blanks+c.in, api.ErrLong)
		refused(t, " "+c.in+blanks, api.ErrLong)
	}
	parses(t, "http://b"+strings.Repeat(" ", api.MaxText-len("http://b&http://a"))+"&http://a", "http://a", "http://b")
	refused(t, "http://b"+strings.Repeat(" ", api.MaxText+1-len("http://b&http://a"))+"&http://a", api.ErrLong)
	for _, bad := range []string{"", "x", "&", "http://a&&http://b", "always&always"} {
		blanks := strings.Repeat(" ", api.MaxText-len(bad))
		refused(t, bad+blanks, api.ErrForm)
		refused(t, bad+blanks+" ", api.ErrLong)
	}
	refused(t, strings.Repeat("&", api.MaxText), api.ErrForm)
	refused(t, strings.Repeat("&", api.MaxText+1), api.ErrLong)
	refused(t, strings.Repeat("http://a&", 1<<16), api.ErrLong)
}

// P8.2

func TestAll(t *testing.T) {
	f := of(t, "http://d", "http://a | http://e", "http://c", "http://b")
	all := f.All()
	for n := 1; n <= 4; n++ {
		told := 0
		all(func(clause.Clause) bool {
			told++
			return told < n
		})
		if told != n {
			t.Errorf("stopped at %d, told %d", n, told)
		}
	}
	pairs := 0
	for c := range all {
		for d := range all {
			if c.Cmp(d) <= 0 {
				pairs++
			}
		}
	}
	if pairs != 10 {
		t.Errorf("one pass within another one: %d pairs in order", pairs)
	}
	for c := range formula.Always().All() {
		t.Errorf("always has %q", c.Text())
	}
}

func TestImplies(t *testing.T) {
	always, never := formula.Always(), formula.Never()
	a, b, ab := of(t, "http://a"), of(t, "http://b"), of(t, "http://a", "http://b")
	aOrB, aOrC := of(t, "http://a | http://b"), of(t, "http://a | http://c")
	aOrBAndC := of(t, "http://a | http://b", "http://c")
	for _, c := range []struct {
		f, o formula.Formula
		want bool
	}{
		{always, always, true}, {never, never, true}, {never, always, true}, {always, never, false},
		{always, a, false}, {a, always, true}, {never, a, true}, {a, never, false}, {never, aOrBAndC, true}, {aOrBAndC, never, false},
		{a, a, true}, {a, b, false}, {ab, a, true}, {ab, b, true}, {a, ab, false}, {ab, ab, true},
		{a, aOrB, true}, {b, aOrB, true}, {ab, aOrB, true}, {aOrB, a, false}, {aOrB, ab, false}, {aOrB, aOrC, false},
		{aOrBAndC, aOrB, true}, {aOrBAndC, aOrC, true}, {aOrBAndC, a, false}, {aOrB, aOrBAndC, false}, {a, aOrBAndC, false},
		{of(t, "http://a", "http://c"), aOrBAndC, true}, {ab, aOrBAndC, false}, {b, aOrC, false},
	} {
		if got := c.f.Implies(c.o); got != c.want {
			t.Errorf("%q implies %q: %t", c.f.Text(), c.o.Text(), got)
		}
	}
}

// both: what a call answers of two formulas, whichever stands ahead, has just these clauses.
func both(t *testing.T, what string, call func(f, o formula.Formula) (formula.Formula, api.Errno), f, o formula.Formula, want ...string) {
	t.Helper()
	for _, way := range [][2]formula.Formula{{f, o}, {o, f}} {
		got, e := call(way[0], way[1])
		if e != api.OK {
			t.Errorf("%s of %q and %q: %d", what, short(way[0].Text()), short(way[1].Text()), int(e))
		}
		holds(t, what, got, want...)
	}
}

// bothLong: what a call answers of two formulas, whichever stands ahead, would be too long.
func bothLong(t *testing.T, what string, call func(f, o formula.Formula) (formula.Formula, api.Errno), f, o formula.Formula) {
	t.Helper()
	before := [2]string{f.Text(), o.Text()}
	for _, way := range [][2]formula.Formula{{f, o}, {o, f}} {
		got, e := call(way[0], way[1])
		nothing(t, what+" of "+short(way[0].Text()), got, e, api.ErrLong)
	}
	if before != [2]string{f.Text(), o.Text()} {
		t.Errorf("%s: a refusal changes a formula", what)
	}
}

func TestAnd(t *testing.T) {
	and := formula.Formula.And
	always, never := formula.Always(), formula.Never()
	a, b, aOrB := of(t, "http://a"), of(t, "http://b"), of(t, "http://a | http://b")
	both(t, "And", and, always, always)
	both(t, "And", and, always, a, "http://a")
	both(t, "And", and, always, never, "never")
	both(t, "And", and, never, never, "never")
	both(t, "And", and, never, a, "never")
	both(t, "And", and, never, of(t, "http://a", "http://b | http://c"), "never")
	both(t, "And", and, a, a, "http://a")
	both(t, "And", and, a, b, "http://a", "http://b")
	both(t, "And", and, a, aOrB, "http://a")
	both(t, "And", and, of(t, "http://d", "http://a | http://b"), of(t, "http://c", "http://b", "http://a | http://d"), "http://b", "http://c", "http://d")
}

func TestAndLong(t *testing.T) {
	and := formula.Formula.And
	full := of(t, numbered(10, 26)...)
	both(t, "And", and, full, full, numbered(10, 26)...)
	both(t, "And", and, full, formula.Always(), numbered(10, 26)...)
	both(t, "And", and, full, formula.Never(), "never")
	both(t, "And", and, full, of(t, "http://p10 | http://z", "closed:1 | http://p25"), numbered(10, 26)...)
	both(t, "And", and, of(t, numbered(10, 18)...), of(t, numbered(18, 26)...), numbered(10, 26)...)
	both(t, "And", and, of(t, numbered(10, 22)...), of(t, numbered(14, 26)...), numbered(10, 26)...)
	both(t, "And", and, of(t, wide(10, 26)), of(t, wide(30, 46)), wide(10, 26), wide(30, 46))
	bothLong(t, "And", and, full, of(t, "http://z"))
	bothLong(t, "And", and, full, of(t, "http://y | http://z"))
	bothLong(t, "And", and, full, of(t, numbered(11, 27)...))
	bothLong(t, "And", and, full, of(t, numbered(30, 46)...))
	bothLong(t, "And", and, of(t, numbered(10, 18)...), of(t, numbered(18, 27)...))
	// 17 clauses of which one implies two.
	pairs := of(t, append(numbered(12, 26), "http://p10 | http://p11", "http://p10 | http://z")...)
	both(t, "And", and, pairs, of(t, "http://p10"), append([]string{"http://p10"}, numbered(12, 26)...)...)
}

func TestOr(t *testing.T) {
	or := formula.Formula.Or
	always, never := formula.Always(), formula.Never()
	a, b, aOrB := of(t, "http://a"), of(t, "http://b"), of(t, "http://a | http://b")
	both(t, "Or", or, always, always)
	both(t, "Or", or, always, a)
	both(t, "Or", or, always, never)
	both(t, "Or", or, always, of(t, numbered(10, 26)...))
	both(t, "Or", or, never, never, "never")
	both(t, "Or", or, never, a, "http://a")
	both(t, "Or", or, never, of(t, "http://a", "http://b | http://c"), "http://a", "http://b | http://c")
	both(t, "Or", or, a, a, "http://a")
	both(t, "Or", or, a, b, "http://a | http://b")
	both(t, "Or", or, a, aOrB, "http://a | http://b")
	both(t, "Or", or, a, of(t, "http://a", "http://b"), "http://a")
	both(t, "Or", or, of(t, "http://a", "http://b"), of(t, "http://c", "http://d"), "http://a | http://c", "http://a | http://d", "http://b | http://c", "http://b | http://d")
	both(t, "Or", or, of(t, "http://a", "http://b"), of(t, "http://a", "http://c"), "http://a", "http://b | http://c")
	both(t, "Or", or, of(t, "http://a | http://b", "http://c"), of(t, "http://d"), "http://a | http://b | http://d", "http://c | http://d")
}

// A clause that would be too long is an error, whether it would be left or not.
func TestOrLongClause(t *testing.T) {
	or := formula.Formula.Or
	full := of(t, wide(10, 26))
	both(t, "Or", or, full, full, wide(10, 26))
	both(t, "Or", or, full, formula.Never(), wide(10, 26))
	both(t, "Or", or, full, formula.Always())
	both(t, "Or", or, full, of(t, "http://p20"), wide(10, 26))
	both(t, "Or", or, of(t, wide(10, 18)), of(t, wide(18, 26)), wide(10, 26))
	both(t, "Or", or, of(t, wide(10, 22)), of(t, wide(14, 26)), wide(10, 26))
	bothLong(t, "Or", or, full, of(t, "http://z"))
	bothLong(t, "Or", or, full, of(t, wide(11, 27)))
	bothLong(t, "Or", or, of(t, wide(10, 18)), of(t, wide(18, 27)))
	bothLong(t, "Or", or, of(t, wide(10, 18), "http://a"), of(t, wide(18, 27)))
	bothLong(t, "Or", or, of(t, "http://a", wide(10, 18)), of(t, "http://b", wide(18, 27)))
	// The clause of http://a with itself implies all the others.
	bothLong(t, "Or", or, of(t, "http://a", wide(10, 26)), of(t, "http://a"))
	bothLong(t, "Or", or, of(t, "http://p30", wide(10, 26)), of(t, "http://p30", wide(11, 27)))
	both(t, "Or", or, of(t, "http://a", wide(10, 25)), of(t, "http://a"), "http://a")
}

// ors: the Eithers of two lists of principals, in order.
func ors(l, m []string) []string {
	var all []string
	for _, p := range l {
		for _, q := range m {
			all = append(all, p+" | "+q)
		}
	}
	return all
}

func TestOrLongFormula(t *testing.T) {
	or := formula.Formula.Or
	both(t, "Or", or, of(t, numbered(10, 26)...), of(t, "http://z"), ors(numbered(10, 26), []string{"http://z"})...)
	both(t, "Or", or, of(t, numbered(10, 14)...), of(t, numbered(20, 24)...), ors(numbered(10, 14), numbered(20, 24))...)
	both(t, "Or", or, of(t, numbered(10, 18)...), of(t, numbered(20, 22)...), ors(numbered(10, 18), numbered(20, 22))...)
	bothLong(t, "Or", or, of(t, numbered(10, 19)...), of(t, numbered(20, 22)...))
	bothLong(t, "Or", or, of(t, numbered(10, 15)...), of(t, numbered(20, 24)...))
	bothLong(t, "Or", or, of(t, numbered(10, 26)...), of(t, numbered(30, 46)...))
	// What both have implies its Eithers: of 24 just 16 are left, of 25 just 17.
	left := append(ors(numbered(10, 15), numbered(20, 23)), "http://z")
	both(t, "Or", or, of(t, append(numbered(10, 15), "http://z")...), of(t, append(numbered(20, 23), "http://z")...), left...)
	bothLong(t, "Or", or, of(t, append(numbered(10, 14), "http://z")...), of(t, append(numbered(20, 24), "http://z")...))
	both(t, "Or", or, of(t, numbered(10, 26)...), of(t, numbered(10, 26)...), numbered(10, 26)...)
	both(t, "Or", or, of(t, numbered(10, 26)...), of(t, numbered(10, 25)...), numbered(10, 25)...)
}

func TestLess(t *testing.T) {
	always, never := formula.Always(), formula.Never()
	f := of(t, "http://a", "http://b | http://c", "http://c | http://d")
	full := of(t, numbered(10, 26)...)
	for _, c := range []struct {
		f, o formula.Formula
		want []string
	}{
		{always, always, nil}, {always, never, nil}, {never, never, nil}, {never, always, []string{"never"}}, {never, f, []string{"never"}}, {always, f, nil},
		{f, f, nil}, {f, never, nil}, {f, always, []string{"http://a", "http://b | http://c", "http://c | http://d"}},
		{f, of(t, "http://a"), []string{"http://b | http://c", "http://c | http://d"}},
		{f, of(t, "http://c"), []string{"http://a"}},
		{f, of(t, "http://b"), []string{"http://a", "http://c | http://d"}},
		{f, of(t, "http://b | http://c"), []string{"http://a", "http://c | http://d"}},
		{f, of(t, "http://a | http://b"), []string{"http://a", "http://b | http://c", "http://c | http://d"}},
		{f, of(t, "http://a", "http://d"), []string{"http://b | http://c"}},
		{f, of(t, "http://a", "http://b", "http://d"), nil},
		{f, of(t, "http://z"), []string{"http://a", "http://b | http://c", "http://c | http://d"}},
		{full, of(t, numbered(11, 26)...), []string{"http://p10"}},
		{full, of(t, "http://p10 | http://z"), numbered(10, 26)},
		{of(t, wide(10, 26), wide(11, 27)), of(t, "http://p10"), []string{wide(11, 27)}},
	} {
		holds(t, short(c.f.Text())+" less "+short(c.o.Text()), c.f.Less(c.o), c.want...)
	}
	holds(t, "after Less", f, "http://a", "http://b | http://c", "http://c | http://d")
}

func TestSame(t *testing.T) {
	f := of(t, "http://c | http://b", "http://a")
	for _, o := range []formula.Formula{f, of(t, "http://a", "http://b | http://c"), of(t, "http://a", "http://c | http://b", "http://a", "http://a | http://d")} {
		if !f.Same(o) || !o.Same(f) {
			t.Errorf("%q isn't %q", o.Text(), f.Text())
		}
	}
	for _, text := range []string{"http://a & http://b|http://c", "http://b|http://c & http://a", "\thttp://c | http://b &http://a|http://x & http://a"} {
		o, _ := formula.Parse([]byte(text))
		if !f.Same(o) {
			t.Errorf("Parse(%q) isn't %q", text, f.Text())
		}
	}
	others := []formula.Formula{
		formula.Always(), formula.Never(), of(t, "http://a"), of(t, "http://b | http://c"), of(t, "http://a", "http://b"),
		of(t, "http://a", "http://b | http://c", "http://d"), of(t, "http://a", "http://b | http://d"), of(t, "http://a", "http://b", "http://c"), f,
	}
	for i, o := range others {
		for j, x := range others {
			if o.Same(x) != (i == j) {
				t.Errorf("%q is %q: %t", o.Text(), x.Text(), i != j)
			}
		}
	}
}

func TestPrincipals(t *testing.T) {
	for _, c := range []struct{ of, want []string }{
		{nil, nil},
		{[]string{"never"}, nil},
		{[]string{"never", "http://a"}, nil},
		{[]string{"http://a"}, []string{"http://a"}},
		{[]string{"http://c", "http://b | http://a"}, []string{"http://a", "http://b", "http://c"}},
		{[]string{"http://c | http://a", "http://b | http://a", "http://c | http://b"}, []string{"http://a", "http://b", "http://c"}},
		{[]string{"http://a", "http://a | http://b"}, []string{"http://a"}},
		{[]string{wide(10, 26), wide(20, 36), "closed:7"}, append([]string{"closed:7"}, numbered(10, 36)...)},
	} {
		f := of(t, c.of...)
		s := f.Principals()
		var got []string
		for _, p := range s.All() {
			got = append(got, p)
		}
		if !slices.Equal(got, c.want) || s.Len() != len(c.want) {
			t.Errorf("Principals of %.200q: %.200q", f.Text(), got)
		}
	}
}
