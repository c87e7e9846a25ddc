package clause_test

import (
	"cmp"
	"slices"
	"strconv"
	"strings"
	"testing"

	"cordon/api"
	"cordon/clause"
)

// of: the clause of principals, that there is.
func of(t *testing.T, l ...string) clause.Clause {
	t.Helper()
	c, e := clause.Of(l...)
	if e != api.OK {
		t.Fatalf("Of(%.80q): %d", l, int(e))
	}
	return c
}

// holds: a clause has just these principals, by all that tells of them.
func holds(t *testing.T, what string, c clause.Clause, want ...string) {
	t.Helper()
	if got := slices.Collect(c.All()); !slices.Equal(got, want) {
		t.Errorf("%s: %q, not %q", what, got, want)
	}
	if c.Len() != len(want) {
		t.Errorf("%s: Len %d, not %d", what, c.Len(), len(want))
	}
	for _, p := range want {
		if !c.Has(p) {
			t.Errorf("%s hasn't %q", what, p)
		}
	}
	text := strings.Join(want, " | ")
	if len(want) == 0 {
		text = "never"
	}
	if got := c.Text(); got != text {
		t.Errorf("%s: Text %q, not %q", what, got, text)
	}
}

// parses: the clause of a text has just these principals.
func parses(t *testing.T, in string, want ...string) {
	t.Helper()
	c, e := clause.Parse([]byte(in))
	if e != api.OK {
		t.Errorf("Parse(%.80q): %d", in, int(e))
		return
	}
	holds(t, "Parse of "+strconv.Quote(in), c, want...)
}

// nothing: an error is as wanted, and what stands beside it is the zero value.
func nothing(t *testing.T, what string, c clause.Clause, got, want api.Errno) {
	t.Helper()
	if got != want {
		t.Errorf("%s: %d, not %d", what, int(got), int(want))
	}
	holds(t, what, c)
}

// refused: Parse answers an error.
func refused(t *testing.T, in string, want api.Errno) {
	t.Helper()
	c, e := clause.Parse([]byte(in))
	if len(in) > 80 {
		in = in[:80] + ".."
	}
	nothing(t, "Parse of "+strconv.Quote(in), c, e, want)
}

// refusedOf: Of answers an error.
func refusedOf(t *testing.T, want api.Errno, l ...string) {
	t.Helper()
	c, e := clause.Of(l...)
	nothing(t, "Of "+strconv.Itoa(len(l)), c, e, want)
}

// numbered: the principals with the numbers from a one on to ahead of another one, rising (10 to 99).
func numbered(from, to int) []string {
	var l []string
	for n := from; n < to; n++ {
		l = append(l, "http://p"+strconv.Itoa(n))
	}
	return l
}

// reversed: a list in the other order.
func reversed(l []string) []string {
	l = slices.Clone(l)
	slices.Reverse(l)
	return l
}

// P7.1: Of

func TestOf(t *testing.T) {
	holds(t, "Of one", of(t, "http://a"), "http://a")
	holds(t, "Of two", of(t, "http://b", "http://a"), "http://a", "http://b")
	holds(t, "Of one twice", of(t, "http://a", "http://a"), "http://a")
	holds(t, "Of three, one twice", of(t, "http://c", "http://a", "http://c", "http://b"), "http://a", "http://b", "http://c")
	holds(t, "Of one host's", of(t, "https://a", "http://a:443", "http://a"), "http://a", "http://a:443", "https://a")
	holds(t, "Of closed ones", of(t, "http://a", "closed:2", "closed:10", "closed:1"), "closed:1", "closed:10", "closed:2", "http://a")
	holds(t, "Of an address", of(t, "http://1.2.3.4:8080"), "http://1.2.3.4:8080")
	holds(t, "Of one that begins another one", of(t, "http://a.b", "http://a-b", "http://a:1", "http://a"), "http://a", "http://a-b", "http://a.b", "http://a:1")
}

func TestNever(t *testing.T) {
	holds(t, "Of none", of(t))
	holds(t, "Of nil", of(t, []string(nil)...))
	holds(t, "Of an empty list", of(t, []string{}...))
	holds(t, "the zero value", clause.Clause{})
	if of(t).Cmp(clause.Clause{}) != 0 {
		t.Error("the clause of none isn't the zero value")
	}
}

func TestOfMany(t *testing.T) {
	all := numbered(10, 10+api.MaxClause)
	holds(t, "Of 16", of(t, all...), all...)
	holds(t, "Of 16, falling", of(t, reversed(all)...), all...)
	holds(t, "Of 17, two alike", of(t, append(reversed(all), all[0])...), all...)
	holds(t, "Of 16, often", of(t, slices.Repeat(all, 100)...), all...)
	holds(t, "Of one, often", of(t, slices.Repeat(all[:1], 1000)...), all[0])
	refusedOf(t, api.ErrLong, numbered(10, 11+api.MaxClause)...)
	refusedOf(t, api.ErrLong, reversed(numbered(10, 11+api.MaxClause))...)
	refusedOf(t, api.ErrLong, append(numbered(10, 11+api.MaxClause), all...)...)
	refusedOf(t, api.ErrLong, numbered(10, 100)...)
}

// noPrincipals: texts that no origin has, with and without blanks about them, and no clause.
var noPrincipals = []string{
	"", " ", "x", "always", "self", "*", "|", "http", "http://", "ftp://a", "http://a/", "http://a?", "http://a#", "http://a:80", "https://a:443", "HTTP://a", "http://A", "http://a:", "http://a:0", "http://a:65536",
	"http://a\n", "\nhttp://a", "http://a\x00", "http://a & http://b", "http://a,http://b", "http://a http://b", "(http://a)",
	"closed", "closed:", "closed:0", "closed:01", "closed:-1", "Closed:1", "http://\xff", "\xff",
}

// clausesTexts: texts that no origin has, but clauses may.
var clausesTexts = []string{"never", " never", " http://a", "http://a ", "\thttp://a", "closed:1 ", "http://a|http://b", "http://a | http://b"}

func TestOfNoPrincipal(t *testing.T) {
	full, tooMany := numbered(10, 10+api.MaxClause), numbered(10, 11+api.MaxClause)
	for _, bad := range slices.Concat(noPrincipals, clausesTexts, []string{strings.Repeat("http://a", 1000)}) {
		refusedOf(t, api.ErrForm, bad)
		refusedOf(t, api.ErrForm, bad, bad)
		refusedOf(t, api.ErrForm, bad, "http://a")
		refusedOf(t, api.ErrForm, "http://a", bad)
		refusedOf(t, api.ErrForm, "http://a", bad, "http://b")
		refusedOf(t, api.ErrForm, append(slices.Clone(full), bad)...)
		refusedOf(t, api.ErrForm, append(slices.Clone(tooMany), bad)...)
		refusedOf(t, api.ErrForm, append([]string{bad}, tooMany...)...)
	}
}

// P7.1: Parse

func TestParse(t *testing.T) {
	parses(t, "http://a", "http://a")
	parses(t, "http://b|http://a", "http://a", "http://b")
	parses(t, "http://a | http://b", "http://a", "http://b")
	parses(t, "http://c|http://a |http://c| http://b", "http://a", "http://b", "http://c")
	parses(t, "http://a|http://a", "http://a")
	parses(t, "closed:7|https://a:80", "closed:7", "https://a:80")
}

func TestParseBlanks(t *testing.T) {
	for _, blanks := range []string{"", " ", "\t", "  ", " \t ", "\t\t"} {
		parses(t, blanks+"never"+blanks)
		parses(t, blanks+"never")
		parses(t, "never"+blanks)
		parses(t, blanks+"http://a"+blanks, "http://a")
		parses(t, blanks+"http://b"+blanks+"|"+blanks+"http://a"+blanks, "http://a", "http://b")
		parses(t, "http://b"+blanks+"|http://a", "http://a", "http://b")
		parses(t, "http://b|"+blanks+"http://a", "http://a", "http://b")
		parses(t, blanks+"http://b|http://a", "http://a", "http://b")
		parses(t, "http://b|http://a"+blanks, "http://a", "http://b")
	}
	for _, other := range []string{"\n", "\r", "\r\n", "\v", "\f", "\x00", "\u00a0", "\u3000"} {
		for _, in := range []string{other + "never", "never" + other, other + "http://a", "http://a" + other, "http://a" + other + "|http://b", "http://a|" + other + "http://b", other} {
			refused(t, in, api.ErrForm)
		}
	}
}

func TestParseRefuses(t *testing.T) {
	for _, in := range []string{
		"", " ", "\t", " \t ", "|", "||", " | ", "x", "x|y",
		"|http://a", "http://a|", " | http://a", "http://a | ", "http://a||http://b", "http://a | | http://b", "http://a|\t|http://b", "|http://a|", "|||",
		"http://a http://b", "http://a\thttp://b", "http ://a", "http:// a", "http://a .b", "http://a: 8", "closed: 7", "closed :7", "ne ver",
		"never|never", "never | never", "never|http://a", "http://a|never", "http://a | never | http://b", "|never", "never|", "never |", "| never",
		"Never", "NEVER", "nevermore", "never never", "never.", "(never)", "always",
		"http://a & http://b", "http://a;http://b", "http://a,http://b", "http://a/|http://b", "HTTP://a", "http://A", "http://a:80", "https://a:443|http://a", "http://a|http://b?c",
	} {
		refused(t, in, api.ErrForm)
	}
	for _, bad := range noPrincipals {
		refused(t, bad, api.ErrForm)
		refused(t, "http://b|"+bad, api.ErrForm)
		refused(t, bad+" | http://b", api.ErrForm)
		refused(t, strings.Join(numbered(10, 11+api.MaxClause), "|")+"|"+bad, api.ErrForm)
		refused(t, bad+"|"+strings.Join(numbered(10, 11+api.MaxClause), "|"), api.ErrForm)
	}
}

func TestParseMany(t *testing.T) {
	all := numbered(10, 10+api.MaxClause)
	parses(t, strings.Join(reversed(all), "|"), all...)
	parses(t, strings.Join(all, " | ")+"|"+all[3], all...)
	parses(t, strings.Join(slices.Repeat(all, 10), "|"), all...)
	refused(t, strings.Join(numbered(10, 11+api.MaxClause), "|"), api.ErrLong)
	refused(t, strings.Join(reversed(numbered(10, 11+api.MaxClause)), " | "), api.ErrLong)
}

// A text's length is told ahead of all else.
func TestParseLong(t *testing.T) {
	for _, c := range []struct {
		in   string
		want []string
	}{
		{"never", nil}, {"http://a", []string{"http://a"}}, {"http://b|http://a", []string{"http://a", "http://b"}},
	} {
		blanks := strings.Repeat(" ", api.MaxText-len(c.in))
		parses(t, c.in+blanks, c.want...)
		parses(t, blanks+c.in, c.want...)
		refused(t, c.in+blanks+"\t", api.ErrLong)
		refused(t, "\t"+blanks+c.in, api.ErrLong)
		refused(t, " "+c.in+blanks, api.ErrLong)
	}
	for _, bad := range []string{"", "x", "|", "http://a||http://b", strings.Join(numbered(10, 11+api.MaxClause), "|") + "|x"} {
		blanks := strings.Repeat(" ", api.MaxText-len(bad))
		refused(t, bad+blanks, api.ErrForm)
		refused(t, bad+blanks+" ", api.ErrLong)
	}
	refused(t, strings.Repeat("|", api.MaxText), api.ErrForm)
	refused(t, strings.Repeat("|", api.MaxText+1), api.ErrLong)
	refused(t, strings.Repeat("http://a|", 1<<16), api.ErrLong)
}

// P7.1: Text

func TestText(t *testing.T) {
	for want, c := range map[string]clause.Clause{
		"never":               {},
		"http://a":            of(t, "http://a"),
		"http://a | http://b": of(t, "http://b", "http://a", "http://b"),
		"closed:1 | http://1.2.3.4:8080 | https://a": of(t, "https://a", "http://1.2.3.4:8080", "closed:1"),
	} {
		if got := c.Text(); got != want {
			t.Errorf("Text: %q, not %q", got, want)
		}
	}
}

// P7.2

func TestAll(t *testing.T) {
	c := of(t, "http://d", "http://a", "http://c", "http://b")
	all := c.All()
	for n := 1; n <= 4; n++ {
		told := 0
		all(func(string) bool {
			told++
			return told < n
		})
		if told != n {
			t.Errorf("stopped at %d, told %d", n, told)
		}
	}
	pairs := 0
	for p := range all {
		for q := range all {
			if p <= q {
				pairs++
			}
		}
	}
	if pairs != 10 {
		t.Errorf("one pass within another one: %d pairs in order", pairs)
	}
	for p := range (clause.Clause{}).All() {
		t.Errorf("never has %q", p)
	}
}

func TestHas(t *testing.T) {
	c := of(t, "http://a", "closed:7", "https://b.org:8")
	for p, want := range map[string]bool{
		"http://a": true, "closed:7": true, "https://b.org:8": true,
		"": false, "a": false, "http://": false, "http://b": false, "https://a": false, "http://a:80": false, "http://A": false, "HTTP://a": false, "http://a ": false, "http://aa": false, "closed:70": false, "https://b.org": false, "never": false, "http://a | closed:7": false,
	} {
		if c.Has(p) != want {
			t.Errorf("Has(%q): %t", p, !want)
		}
	}
	for _, p := range []string{"", "never", "http://a"} {
		if (clause.Clause{}).Has(p) {
			t.Errorf("never has %q", p)
		}
	}
}

func TestImplies(t *testing.T) {
	never, a, b := clause.Clause{}, of(t, "http://a"), of(t, "http://b")
	ab, abc, ac := of(t, "http://a", "http://b"), of(t, "http://a", "http://b", "http://c"), of(t, "http://a", "http://c")
	for _, c := range []struct {
		c, o clause.Clause
		want bool
	}{
		{never, never, true}, {never, a, true}, {never, abc, true}, {a, never, false}, {abc, never, false},
		{a, a, true}, {ab, ab, true}, {a, b, false}, {b, a, false},
		{a, ab, true}, {b, ab, true}, {ab, a, false}, {ab, b, false},
		{ab, abc, true}, {ac, abc, true}, {abc, ab, false}, {ab, ac, false}, {ac, ab, false}, {b, ac, false},
	} {
		if got := c.c.Implies(c.o); got != c.want {
			t.Errorf("%q implies %q: %t", c.c.Text(), c.o.Text(), got)
		}
	}
}

// either: Either of two clauses, both ways, has just these principals.
func either(t *testing.T, c, o clause.Clause, want ...string) {
	t.Helper()
	for _, way := range [][2]clause.Clause{{c, o}, {o, c}} {
		got, e := way[0].Either(way[1])
		if e != api.OK {
			t.Errorf("%q or %q: %d", way[0].Text(), way[1].Text(), int(e))
		}
		holds(t, "Either", got, want...)
	}
}

func TestEither(t *testing.T) {
	never, a, b := clause.Clause{}, of(t, "http://a"), of(t, "http://b")
	either(t, never, never)
	either(t, never, a, "http://a")
	either(t, a, a, "http://a")
	either(t, a, b, "http://a", "http://b")
	either(t, of(t, "http://a", "http://c"), of(t, "http://b", "http://c", "http://d"), "http://a", "http://b", "http://c", "http://d")
}

func TestEitherLong(t *testing.T) {
	full := of(t, numbered(10, 26)...)
	either(t, full, full, numbered(10, 26)...)
	either(t, full, clause.Clause{}, numbered(10, 26)...)
	either(t, full, of(t, numbered(20, 21)...), numbered(10, 26)...)
	either(t, of(t, numbered(10, 18)...), of(t, numbered(18, 26)...), numbered(10, 26)...)
	either(t, of(t, numbered(10, 22)...), of(t, numbered(14, 26)...), numbered(10, 26)...)
	either(t, of(t, numbered(10, 25)...), of(t, numbered(11, 26)...), numbered(10, 26)...)
	for _, pair := range [][2]clause.Clause{
		{full, of(t, numbered(26, 27)...)}, {full, of(t, "closed:1")}, {full, of(t, numbered(11, 27)...)}, {full, of(t, numbered(30, 46)...)},
		{of(t, numbered(10, 18)...), of(t, numbered(18, 27)...)}, {of(t, numbered(10, 22)...), of(t, numbered(15, 27)...)},
	} {
		for i := range pair {
			c, e := pair[i].Either(pair[1-i])
			nothing(t, "Either", c, e, api.ErrLong)
		}
	}
	holds(t, "after a refusal", full, numbered(10, 26)...)
}

func TestCmp(t *testing.T) {
	rising := []clause.Clause{
		{},
		of(t, "closed:1"),
		of(t, "closed:1", "https://z"),
		of(t, "closed:10"),
		of(t, "closed:2"),
		of(t, "http://a"),
		of(t, "http://a", "http://b"),
		of(t, "http://a", "http://b", "http://c"),
		of(t, "http://a", "http://c"),
		of(t, "http://a-b"),
		of(t, "http://a.b"),
		of(t, "http://a.b", "https://a"),
		of(t, "http://b"),
		of(t, numbered(10, 25)...),
		of(t, numbered(10, 26)...),
		of(t, numbered(11, 12)...),
		of(t, "https://a"),
	}
	for i, c := range rising {
		for j, o := range rising {
			if got := c.Cmp(o); got != cmp.Compare(i, j) {
				t.Errorf("Cmp of %q and %q: %d", c.Text(), o.Text(), got)
			}
		}
	}
	if of(t, "http://b", "http://a").Cmp(of(t, "http://a", "http://b", "http://a")) != 0 {
		t.Error("Cmp of the same")
	}
}
