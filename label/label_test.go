package label_test

import (
	"strconv"
	"strings"
	"testing"

	"cordon/api"
	"cordon/formula"
	"cordon/label"
)

// of: the formula of a text, that there is.
func of(t *testing.T, text string) formula.Formula {
	t.Helper()
	f, e := formula.Parse([]byte(text))
	if e != api.OK {
		t.Fatalf("formula %.80q: %d", text, int(e))
	}
	return f
}

// pair: the label of two formulas' texts.
func pair(t *testing.T, s, i string) label.Label {
	t.Helper()
	return label.Label{S: of(t, s), I: of(t, i)}
}

// is: a label has just the formulas with these texts, by all that tells of them.
func is(t *testing.T, what string, l label.Label, s, i string) {
	t.Helper()
	if l.S.Text() != s || l.I.Text() != i {
		t.Errorf("%s: S %.100q, I %.100q, not %.100q, %.100q", what, l.S.Text(), l.I.Text(), s, i)
	}
	if got := l.Text(); got != s+" ; "+i {
		t.Errorf("%s: Text %.200q, not %.200q", what, got, s+" ; "+i)
	}
}

// short: a text, or its beginning.
func short(text string) string {
	if len(text) > 80 {
		return text[:80] + ".."
	}
	return text
}

// parses: the label of a text has just these formulas.
func parses(t *testing.T, in, s, i string) {
	t.Helper()
	l, e := label.Parse([]byte(in))
	if e != api.OK {
		t.Errorf("Parse(%.80q): %d", in, int(e))
		return
	}
	is(t, "Parse of "+strconv.Quote(short(in)), l, s, i)
}

// nothing: an error is as wanted, and what stands beside it is the zero value.
func nothing(t *testing.T, what string, l label.Label, got, want api.Errno) {
	t.Helper()
	if got != want {
		t.Errorf("%s: %d, not %d", what, int(got), int(want))
	}
	if !l.S.Same(formula.Always()) || !l.I.Same(formula.Always()) {
		t.Errorf("%s: %.100q beside an error", what, l.Text())
	}
}

// refused: Parse answers an error.
func refused(t *testing.T, in string, want api.Errno) {
	t.Helper()
	l, e := label.Parse([]byte(in))
	nothing(t, "Parse of "+strconv.Quote(short(in)), l, e, want)
}

// numbered: the principals with the numbers from a one on to ahead of another one, rising (10 to 99), with something between each two.
func numbered(from, to int, between string) string {
	var l []string
	for n := from; n < to; n++ {
		l = append(l, "http://p"+strconv.Itoa(n))
	}
	return strings.Join(l, between)
}

// all: the text of the formula by which such principals agree, each.
func all(from, to int) string { return numbered(from, to, " & ") }

// some: the text of the formula by which one of such principals agrees.
func some(from, to int) string { return numbered(from, to, " | ") }

// P9.1: Open, Shut, Pure

func TestOpenShutPure(t *testing.T) {
	is(t, "Open", label.Open(), "always", "always")
	is(t, "Shut", label.Shut(), "never", "always")
	is(t, "Pure", label.Pure(), "always", "never")
	is(t, "the zero value", label.Label{}, "always", "always")
	if !label.Open().Same(label.Label{}) || label.Shut().Same(label.Label{}) || label.Pure().Same(label.Label{}) {
		t.Error("Open isn't the zero value, or another one is")
	}
	parses(t, label.Open().Text(), "always", "always")
	parses(t, label.Shut().Text(), "never", "always")
	parses(t, label.Pure().Text(), "always", "never")
}

// P9.1: Parse

func TestParse(t *testing.T) {
	parses(t, "http://a", "http://a", "always")
	parses(t, "always", "always", "always")
	parses(t, "never", "never", "always")
	parses(t, "http://a | http://b & closed:7", "closed:7 & http://a | http://b", "always")
	parses(t, "http://a;http://b", "http://a", "http://b")
	parses(t, "http://b ; http://a", "http://b", "http://a")
	parses(t, "http://a ; always", "http://a", "always")
	parses(t, "always ; http://a", "always", "http://a")
	parses(t, "always;always", "always", "always")
	parses(t, "always;never", "always", "never")
	parses(t, "never;always", "never", "always")
	parses(t, "never;never", "never", "never")
	parses(t, "http://a;http://a", "http://a", "http://a")
	parses(t, "http://b|http://a&http://c;http://e&http://d", "http://a | http://b & http://c", "http://d & http://e")
	parses(t, "http://a & http://a | http://b ; never & http://c", "http://a", "never")
	parses(t, "https://a.b.org:8080 & closed:2 ; http://1.2.3.4", "closed:2 & https://a.b.org:8080", "http://1.2.3.4")
}

func TestParseBlanks(t *testing.T) {
	for _, b := range []string{"", " ", "\t", "  ", " \t ", "\t\t"} {
		parses(t, b+"http://a"+b, "http://a", "always")
		parses(t, b+"always"+b, "always", "always")
		parses(t, b+"never", "never", "always")
		parses(t, b+"http://a"+b+";"+b+"http://b"+b, "http://a", "http://b")
		parses(t, b+"always"+b+";"+b+"never"+b, "always", "never")
		parses(t, b+"never"+b+";"+b+"always"+b, "never", "always")
		parses(t, "http://a"+b+";http://b", "http://a", "http://b")
		parses(t, "http://a;"+b+"http://b", "http://a", "http://b")
		parses(t, b+"http://b"+b+"&"+b+"http://a"+b+";"+b+"http://d"+b+"|"+b+"http://c"+b, "http://a & http://b", "http://c | http://d")
		refused(t, b, api.ErrForm)
		refused(t, b+";"+b, api.ErrForm)
		refused(t, "http://a"+b+";"+b, api.ErrForm)
		refused(t, b+";"+b+"http://a", api.ErrForm)
		refused(t, ";"+b+";", api.ErrForm)
	}
	for _, other := range []string{"\n", "\r", "\r\n", "\v", "\f", "\x00", "\u00a0", "\u3000"} {
		for _, in := range []string{other, other + "http://a", "http://a" + other, "http://a" + other + ";http://b", "http://a;" + other + "http://b", "always;always" + other, other + ";", "always ;" + other} {
			refused(t, in, api.ErrForm)
		}
	}
}

func TestParseRefuses(t *testing.T) {
	for _, in := range []string{
		"", " ", ";", " ; ", ";;", ";;;", "x", "x;x", "x;http://a", "http://a;x", "&", "|", "&;|",
		";http://a", "http://a;", " ; http://a", "http://a ; ", ";always", "always;", ";never", "never;",
		"http://a;http://b;http://c", "http://a ; always ; always", "always;always;always", "always;;always", "http://a;;", ";;http://a", ";http://a;", "http://a;http://b;", ";http://a;http://b", "never;;", "http://a; ;http://b",
		"http://a&;http://b", "http://a;&http://b", "http://a;http://b&", "http://a|;http://b", "http://a;|http://b", "http://a;always & http://b", "always & http://a;http://b",
		"http://a,http://b", "http://a:http://b", "http://a http://b", "S http://a ; I http://b", "(http://a ; http://b)", "http://a/;http://b", "http://a;http://b/", "HTTP://a", "http://a;HTTP://b", "Always", "always;Never", "open", "shut", "pure", "http://a\uff1bhttp://b", "http://a\u037ehttp://b",
	} {
		refused(t, in, api.ErrForm)
	}
}

// Of several errors the first is told: the whole text's length, too many signs, S's, I's.
func TestParseFirstError(t *testing.T) {
	long, many := some(10, 27), all(10, 27)
	for in, want := range map[string]api.Errno{
		long:                           api.ErrLong,
		many:                           api.ErrLong,
		long + ";http://a":             api.ErrLong,
		many + ";http://a":             api.ErrLong,
		"http://a;" + long:             api.ErrLong,
		"http://a;" + many:             api.ErrLong,
		long + ";" + long:              api.ErrLong,
		long + ";" + many:              api.ErrLong,
		long + ";x":                    api.ErrLong,
		many + ";":                     api.ErrLong,
		"x;" + long:                    api.ErrForm,
		";" + many:                     api.ErrForm,
		long + ";;":                    api.ErrForm,
		many + "; ; ":                  api.ErrForm,
		long + ";" + long + ";" + long: api.ErrForm,
		";" + long + ";":               api.ErrForm,
		"x & " + long + ";http://a":    api.ErrForm,
		"http://a;" + long + "& x":     api.ErrLong,
	} {
		refused(t, in, want)
	}
}

// A text's length is told ahead of all else; it is the whole text's.
func TestParseLong(t *testing.T) {
	for _, c := range []struct{ in, s, i string }{
		{"http://a", "http://a", "always"}, {"always", "always", "always"}, {"never", "never", "always"}, {"http://a;http://b", "http://a", "http://b"}, {"always ; never", "always", "never"},
	} {
		blanks := strings.Repeat(" ", api.MaxText-len(c.in))
		parses(t, c.in+blanks, c.s, c.i)
		parses(t, blanks+c.in, c.s, c.i)
		refused(t, c.in+blanks+"\t", api.ErrLong)
		refused(t, "\t"+blanks+c.in, api.ErrLong)
		refused(t, " "+c.in+blanks, api.ErrLong)
	}
	blanks := strings.Repeat("\t", api.MaxText-len("http://a;http://b"))
	half := blanks[:len(blanks)/2]
	parses(t, "http://a"+blanks+";http://b", "http://a", "http://b")
	parses(t, "http://a;"+blanks+"http://b", "http://a", "http://b")
	parses(t, "http://a"+half+";"+blanks[len(half):]+"http://b", "http://a", "http://b")
	refused(t, "http://a "+blanks+";http://b", api.ErrLong)
	refused(t, "http://a; "+blanks+"http://b", api.ErrLong)
	refused(t, "http://a "+half+";"+blanks[len(half):]+"http://b", api.ErrLong)
	for _, bad := range []string{"", "x", ";", ";;", "http://a;", "http://a;;http://b", "x;x"} {
		blanks := strings.Repeat(" ", api.MaxText-len(bad))
		refused(t, bad+blanks, api.ErrForm)
		refused(t, bad+blanks+" ", api.ErrLong)
	}
	refused(t, strings.Repeat(";", api.MaxText), api.ErrForm)
	refused(t, strings.Repeat(";", api.MaxText+1), api.ErrLong)
	refused(t, strings.Repeat("http://a;", 1<<16), api.ErrLong)
}

// P9.1: Of

func TestOf(t *testing.T) {
	for _, p := range []string{"http://a", "https://a.b.org:8080", "http://1.2.3.4", "closed:7", "closed:9223372036854775807"} {
		l, e := label.Of(p)
		if e != api.OK {
			t.Errorf("Of(%q): %d", p, int(e))
		}
		is(t, "Of", l, p, "always")
	}
	for _, p := range []string{"", " ", "x", "never", "always", ";", "http://a;", "http://a ; always", "http://a;http://b", "http://a ", " http://a", "HTTP://a", "http://a:80", "http://a/", "http://a | http://b", "http://a & http://b", "closed:0", "closed", "\x00", "\xff", "ftp://a", strings.Repeat("http://a", 1000)} {
		l, e := label.Of(p)
		nothing(t, "Of("+strconv.Quote(short(p))+")", l, e, api.ErrForm)
	}
}

// P9.1: Text

func TestText(t *testing.T) {
	is(t, "of some", pair(t, "http://b|http://a&closed:7", "http://d&http://c"), "closed:7 & http://a | http://b", "http://c & http://d")
	is(t, "of the same twice", pair(t, "http://a", "http://a"), "http://a", "http://a")
	is(t, "of an S alone", label.Label{S: of(t, "http://a")}, "http://a", "always")
	is(t, "of an I alone", label.Label{I: of(t, "http://a")}, "always", "http://a")
	is(t, "of never twice", pair(t, "never", "never"), "never", "never")
}

// P9.2: Flows

func TestFlows(t *testing.T) {
	open, shut, pure := label.Open(), label.Shut(), label.Pure()
	never := pair(t, "never", "never")
	a, b := pair(t, "http://a", "always"), pair(t, "http://b", "always")
	byA, byB := pair(t, "always", "http://a"), pair(t, "always", "http://b")
	for _, c := range []struct {
		l, o label.Label
		want bool
	}{
		{open, open, true}, {shut, shut, true}, {pure, pure, true}, {never, never, true},
		{open, shut, true}, {shut, open, false}, {pure, open, true}, {open, pure, false}, {pure, shut, true}, {shut, pure, false},
		{pure, never, true}, {never, shut, true}, {open, never, false}, {never, open, false}, {shut, never, false}, {never, pure, false},
		{open, a, true}, {a, open, false}, {a, shut, true}, {shut, a, false}, {pure, a, true}, {a, pure, false}, {a, b, false}, {b, a, false}, {a, a, true},
		{byA, open, true}, {open, byA, false}, {pure, byA, true}, {byA, pure, false}, {byA, shut, true}, {shut, byA, false}, {byA, byB, false}, {byA, byA, true},
		{byA, a, true}, {a, byA, false}, {byB, a, true}, {a, byB, false}, {never, a, false}, {a, never, false},
		{pair(t, "http://a|http://b", "always"), a, true}, {a, pair(t, "http://a|http://b", "always"), false},
		{a, pair(t, "http://a&http://b", "always"), true}, {pair(t, "http://a&http://b", "always"), a, false},
		{byA, pair(t, "always", "http://a|http://b"), true}, {pair(t, "always", "http://a|http://b"), byA, false},
		{pair(t, "always", "http://a&http://b"), byA, true}, {byA, pair(t, "always", "http://a&http://b"), false},
		{pair(t, "http://a", "http://b&http://c"), pair(t, "http://a&http://b", "http://c"), true},
		{pair(t, "http://a", "http://b"), pair(t, "http://a&http://b", "http://c"), false},
		{pair(t, "http://a&http://b", "http://b&http://c"), pair(t, "http://a", "http://c"), false},
		{pair(t, "http://a", "http://b"), pair(t, "http://b", "http://a"), false},
	} {
		if got := c.l.Flows(c.o); got != c.want {
			t.Errorf("%q flows to %q: %t", c.l.Text(), c.o.Text(), got)
		}
	}
}

// P9.2: Join, Meet

// makes: what a call answers of two labels, whichever stands ahead, has just these formulas.
func makes(t *testing.T, what string, call func(l, o label.Label) (label.Label, api.Errno), l, o label.Label, s, i string) {
	t.Helper()
	for _, way := range [][2]label.Label{{l, o}, {o, l}} {
		got, e := call(way[0], way[1])
		if e != api.OK {
			t.Errorf("%s of %q and %q: %d", what, short(way[0].Text()), short(way[1].Text()), int(e))
		}
		is(t, what+" of "+short(way[0].Text())+" and "+short(way[1].Text()), got, s, i)
	}
}

// joins: the join of two labels, whichever stands ahead.
func joins(t *testing.T, l, o label.Label, s, i string) {
	t.Helper()
	makes(t, "Join", label.Label.Join, l, o, s, i)
}

// meets: the meet of two labels, whichever stands ahead.
func meets(t *testing.T, l, o label.Label, s, i string) {
	t.Helper()
	makes(t, "Meet", label.Label.Meet, l, o, s, i)
}

// tooLong: what a call answers of two labels, whichever stands ahead, would be too long; they stay.
func tooLong(t *testing.T, what string, call func(l, o label.Label) (label.Label, api.Errno), l, o label.Label) {
	t.Helper()
	before := [2]string{l.Text(), o.Text()}
	for _, way := range [][2]label.Label{{l, o}, {o, l}} {
		got, e := call(way[0], way[1])
		nothing(t, what+" of "+short(way[0].Text()), got, e, api.ErrLong)
	}
	if before != [2]string{l.Text(), o.Text()} {
		t.Errorf("%s: a refusal changes a label", what)
	}
}

// The join and the meet with open, shut and pure.
func TestJoinAndMeetOfEnds(t *testing.T) {
	open, shut, pure, never := label.Open(), label.Shut(), label.Pure(), pair(t, "never", "never")
	joins(t, open, open, "always", "always")
	joins(t, open, shut, "never", "always")
	joins(t, open, pure, "always", "always")
	joins(t, shut, shut, "never", "always")
	joins(t, shut, pure, "never", "always")
	joins(t, pure, pure, "always", "never")
	joins(t, never, pure, "never", "never")
	joins(t, never, open, "never", "always")
	meets(t, open, open, "always", "always")
	meets(t, open, shut, "always", "always")
	meets(t, open, pure, "always", "never")
	meets(t, shut, shut, "never", "always")
	meets(t, shut, pure, "always", "never")
	meets(t, pure, pure, "always", "never")
	meets(t, never, shut, "never", "never")
	meets(t, never, open, "always", "never")

	s, i := "closed:7 & http://a | http://b", "http://c | http://d & http://e"
	l := pair(t, s, i)
	joins(t, l, open, s, "always")
	joins(t, l, shut, "never", "always")
	joins(t, l, pure, s, i)
	joins(t, l, never, "never", i)
	joins(t, l, l, s, i)
	meets(t, l, open, "always", i)
	meets(t, l, shut, s, i)
	meets(t, l, pure, "always", "never")
	meets(t, l, never, s, "never")
	meets(t, l, l, s, i)
}

func TestJoinAndMeet(t *testing.T) {
	a, b := pair(t, "http://a", "always"), pair(t, "http://b", "always")
	byA, byB := pair(t, "always", "http://a"), pair(t, "always", "http://b")
	joins(t, a, b, "http://a & http://b", "always")
	joins(t, byA, byB, "always", "http://a | http://b")
	joins(t, a, byB, "http://a", "always")
	meets(t, a, b, "http://a | http://b", "always")
	meets(t, byA, byB, "always", "http://a & http://b")
	meets(t, a, byB, "always", "http://b")

	l, o := pair(t, "http://a", "http://c"), pair(t, "http://b", "http://d")
	joins(t, l, o, "http://a & http://b", "http://c | http://d")
	meets(t, l, o, "http://a | http://b", "http://c & http://d")
	l, o = pair(t, "http://a & http://b", "http://a & http://b"), pair(t, "http://a & http://c", "http://a & http://c")
	joins(t, l, o, "http://a & http://b & http://c", "http://a & http://b | http://c")
	meets(t, l, o, "http://a & http://b | http://c", "http://a & http://b & http://c")
	l, o = pair(t, "http://a", "http://b"), pair(t, "http://a & http://b", "http://a | http://b")
	joins(t, l, o, "http://a & http://b", "http://a | http://b")
	meets(t, l, o, "http://a", "http://b")
}

// A formula that would be too long is an error: of S, of I, of both.
func TestJoinAndMeetLong(t *testing.T) {
	join, meet := label.Label.Join, label.Label.Meet
	each, one, other := all(10, 26), some(10, 26), "http://z"
	ors := strings.ReplaceAll(each, " &", " | http://z &") + " | http://z"

	// All of 16 and one more is too long for And, one of 16 or one more for Or.
	tooLong(t, "Join, of S", join, pair(t, each, "always"), pair(t, other, "always"))
	tooLong(t, "Join, of I", join, pair(t, "always", one), pair(t, "always", other))
	tooLong(t, "Join, of both", join, pair(t, each, one), pair(t, other, other))
	tooLong(t, "Meet, of S", meet, pair(t, one, "always"), pair(t, other, "always"))
	tooLong(t, "Meet, of I", meet, pair(t, "always", each), pair(t, "always", other))
	tooLong(t, "Meet, of both", meet, pair(t, one, each), pair(t, other, other))
	tooLong(t, "Join, of S", join, pair(t, each, "http://a"), pair(t, other, "http://b"))
	tooLong(t, "Join, of I", join, pair(t, "http://a", one), pair(t, "http://b", other))
	tooLong(t, "Meet, of S", meet, pair(t, one, "http://a"), pair(t, other, "http://b"))
	tooLong(t, "Meet, of I", meet, pair(t, "http://a", each), pair(t, "http://b", other))

	// What the one call can't make the other one can.
	meets(t, pair(t, each, "always"), pair(t, other, "always"), ors, "always")
	meets(t, pair(t, "always", one), pair(t, "always", other), "always", one+" & "+other)
	meets(t, pair(t, each, one), pair(t, other, other), ors, one+" & "+other)
	joins(t, pair(t, one, "always"), pair(t, other, "always"), one+" & "+other, "always")
	joins(t, pair(t, "always", each), pair(t, "always", other), "always", ors)
	joins(t, pair(t, one, each), pair(t, other, other), one+" & "+other, ors)

	// Just 16 are none too many; nor are more that are left out.
	joins(t, pair(t, all(10, 20), some(10, 20)), pair(t, all(18, 26), some(18, 26)), each, one)
	meets(t, pair(t, some(10, 20), all(10, 20)), pair(t, some(18, 26), all(18, 26)), one, each)
	joins(t, pair(t, each, one), pair(t, "never", "never"), "never", one)
	meets(t, pair(t, one, each), pair(t, "never", "never"), one, "never")
	joins(t, pair(t, each, one), pair(t, each, one), each, one)
	meets(t, pair(t, one, each), pair(t, one, each), one, each)
}

// P9.2: Same

func TestSame(t *testing.T) {
	l := pair(t, "http://a & http://b", "http://c | http://d")
	for _, o := range []label.Label{l, pair(t, "http://b&http://a", "http://d|http://c"), pair(t, "http://a & http://b & http://a | http://c", "http://d|http://c & http://c|http://d|http://e")} {
		if !l.Same(o) || !o.Same(l) || !l.Flows(o) || !o.Flows(l) {
			t.Errorf("%q isn't %q", l.Text(), o.Text())
		}
	}
	for _, o := range []label.Label{
		{}, {S: l.S}, {I: l.I}, {S: l.I, I: l.S}, label.Shut(), label.Pure(), {S: l.S, I: formula.Never()}, {S: formula.Never(), I: l.I},
		pair(t, "http://a", "http://c | http://d"), pair(t, "http://a & http://b", "http://c"), pair(t, "http://a | http://b", "http://c | http://d"), pair(t, "http://a & http://b", "http://c & http://d"),
	} {
		if l.Same(o) || o.Same(l) {
			t.Errorf("%q is %q", l.Text(), o.Text())
		}
	}
}
