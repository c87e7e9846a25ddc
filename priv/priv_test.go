package priv_test

import (
	"strconv"
	"strings"
	"testing"

	"cordon/api"
	"cordon/formula"
	"cordon/label"
	"cordon/priv"
)

// of: the formula of a text, that there is.
func of(t *testing.T, text string) formula.Formula {
	t.Helper()
	f, e := formula.Parse([]byte(text))
	if e != api.OK {
		t.Fatalf("formula %.80q: %d", text, int(e))
	}
	return f
}

// labeled: the label of a text, that there is.
func labeled(t *testing.T, text string) label.Label {
	t.Helper()
	l, e := label.Parse([]byte(text))
	if e != api.OK {
		t.Fatalf("label %.80q: %d", text, int(e))
	}
	return l
}

// is: a formula that a call answers has this text, and there is no error.
func is(t *testing.T, what string, f formula.Formula, e api.Errno, want string) {
	t.Helper()
	if e != api.OK || f.Text() != want || !f.Same(of(t, want)) {
		t.Errorf("%s: %.200q, %d, not %.200q", what, f.Text(), int(e), want)
	}
}

// refused: the error is as wanted, and the formula beside it is the zero value.
func refused(t *testing.T, what string, f formula.Formula, got, want api.Errno) {
	t.Helper()
	if got != want || f.Len() != 0 {
		t.Errorf("%s: %.100q, %d, not %d", what, f.Text(), int(got), int(want))
	}
}

// short: a text, or its beginning.
func short(text string) string {
	if len(text) > 80 {
		return text[:80] + ".."
	}
	return text
}

// numbered: the principals with the numbers from a one on to ahead of another one, rising (10 to 99), with something between each two.
func numbered(from, to int, between string) string {
	var l []string
	for n := from; n < to; n++ {
		l = append(l, "http://p"+strconv.Itoa(n))
	}
	return strings.Join(l, between)
}

// all: the text of the formula by which such principals agree, each.
func all(from, to int) string { return numbered(from, to, " & ") }

// some: the text of the formula by which one of such principals agrees.
func some(from, to int) string { return numbered(from, to, " | ") }

// P10.1: Own

func TestOwn(t *testing.T) {
	for _, p := range []string{"http://a", "https://a.b.org:8080", "http://1.2.3.4", "closed:7", "closed:9223372036854775807"} {
		f, e := priv.Own(p)
		is(t, "Own("+strconv.Quote(p)+")", f, e, p)
	}
	for _, p := range []string{"", " ", "x", "never", "always", "*", "self", "none", "&", "http://a ", " http://a", "HTTP://a", "http://a:80", "http://a/", "http://a | http://b", "http://a & http://b", "http://a ; always", "closed:0", "closed", "\x00", "\xff", "ftp://a", strings.Repeat("http://a", 1000)} {
		f, e := priv.Own(p)
		refused(t, "Own("+strconv.Quote(short(p))+")", f, e, api.ErrForm)
	}
}

// P10.1: Flows and Needs

// The ways in which a label may flow to another one.
const (
	without = iota // it flows by any privilege
	needed         // it flows by the privilege alone
	denied         // it doesn't flow
)

// flow is a privilege, two labels, and how the one flows to the other one by it.
type flow struct {
	p, l, o string
	how     int
}

// flows: Flows and both answers of Needs are as wanted of each.
func flows(t *testing.T, list []flow) {
	t.Helper()
	for _, c := range list {
		p, l, o := of(t, c.p), labeled(t, c.l), labeled(t, c.o)
		may := c.how != denied
		if priv.Flows(p, l, o) != may {
			t.Errorf("by %.80q %.80q flows to %.80q: %t", c.p, c.l, c.o, !may)
		}
		if needs, by := priv.Needs(p, l, o); needs != (c.how == needed) || by != may {
			t.Errorf("by %.80q %.80q to %.80q: Needs %t, %t", c.p, c.l, c.o, needs, by)
		}
		if l.Flows(o) != (c.how == without) {
			t.Errorf("%.80q flows to %.80q: %t", c.l, c.o, l.Flows(o))
		}
	}
}

func TestFlowsOfSeeing(t *testing.T) {
	flows(t, []flow{
		{"http://a", "http://a", "always", needed}, {"http://a", "http://b", "always", denied}, {"http://a", "http://a", "http://b", needed},
		{"http://a", "http://a", "http://a", without}, {"http://a", "http://b", "http://b", without}, {"http://a", "http://b", "http://a", denied},
		{"http://a", "http://a & http://b", "http://b", needed}, {"http://a", "http://a & http://b", "http://a", denied}, {"http://a", "http://a & http://b", "always", denied},
		{"http://a", "http://a & http://b", "http://b & http://c", needed}, {"http://a", "http://a & http://b", "http://c", denied}, {"http://a", "http://a & http://b", "http://a & http://b", without},

		// One who agrees is enough for a clause of more than one, not the other way round.
		{"http://a", "http://a | http://b", "always", needed}, {"http://a", "http://a | http://b", "http://c", needed}, {"http://a", "http://a | http://b", "http://b", without},
		{"http://a", "http://a | http://b & http://b | http://c", "always", denied}, {"http://a", "http://a | http://b & http://b | http://c", "http://c", needed}, {"http://a", "http://b | http://c", "always", denied},

		// A privilege of a clause of more than one.
		{"http://a | http://b", "http://a | http://b", "always", needed}, {"http://a | http://b", "http://a", "always", denied}, {"http://a | http://b", "http://b", "always", denied},
		{"http://a | http://b", "http://a | http://b | http://c", "always", needed}, {"http://a | http://b", "http://a | http://c", "always", denied}, {"http://a | http://b", "http://a | http://c", "http://c", without},
		{"http://a | http://b", "http://a | http://b & http://c", "http://c", needed}, {"http://a | http://b", "http://c", "http://a | http://b", denied},

		// Of more than one clause: one clause of it, or one of the other label's S, implies each.
		{"http://a & http://b", "http://a", "always", needed}, {"http://a & http://b", "http://b", "always", needed}, {"http://a & http://b", "http://a & http://b", "always", needed},
		{"http://a & http://b", "http://a & http://b & http://c", "always", denied}, {"http://a & http://b", "http://a & http://b & http://c", "http://c", needed}, {"http://a & http://b", "http://a | http://c & http://b | http://d", "always", needed},
		{"http://a & http://b", "http://c | http://d", "always", denied}, {"http://a | http://b & http://b | http://c", "http://b", "always", denied}, {"http://a | http://b & http://b | http://c", "http://a | http://b | http://c", "always", needed},
		{"http://a | http://b & http://c", "http://a | http://b & http://c & http://d", "http://d & http://e", needed}, {"http://a | http://b & http://c", "http://a & http://c", "http://a", needed}, {"http://a | http://b & http://c", "http://a & http://c", "http://b", denied},
	})
}

func TestFlowsOfVouching(t *testing.T) {
	flows(t, []flow{
		{"http://a", "always", "always ; http://a", needed}, {"http://b", "always", "always ; http://a", denied}, {"http://a", "always ; http://a", "always", without},
		{"http://a", "always ; http://a", "always ; http://a", without}, {"http://b", "always ; http://a", "always ; http://a & http://b", needed}, {"http://a", "always ; http://a", "always ; http://a & http://b", denied},
		{"http://c", "always ; http://a", "always ; http://a & http://b", denied}, {"http://a", "always", "always ; http://a & http://b", denied}, {"http://a & http://b", "always", "always ; http://a & http://b", needed},
		{"http://a", "always", "always ; http://a | http://b", needed}, {"http://c", "always", "always ; http://a | http://b", denied}, {"http://a | http://b", "always", "always ; http://a | http://b", needed},
		{"http://a | http://b", "always", "always ; http://a", denied}, {"http://a | http://b", "always", "always ; http://a | http://b | http://c", needed}, {"http://a | http://b", "always ; http://c", "always ; http://a | http://b & http://c", needed},
		{"http://a | http://b", "always ; http://a | http://c", "always ; http://a", denied}, {"http://a", "always ; never", "always ; http://b", without}, {"http://a", "always ; http://b", "always ; never", denied},

		// Of both parts each has to flow.
		{"http://a", "http://a", "http://b ; http://a", needed}, {"http://a", "http://a", "always ; http://b", denied}, {"http://a", "http://b", "always ; http://a", denied},
		{"http://a", "http://a ; http://b", "always ; http://a & http://b", needed}, {"http://a & http://b", "http://a", "always ; http://b", needed}, {"http://a", "http://b", "http://b ; http://a", needed},
		{"http://a", "http://a ; http://b", "always ; http://b", needed}, {"http://a", "http://a ; http://b", "http://a", without}, {"http://a | http://b", "http://a | http://b", "always ; http://a | http://b", needed},
	})
}

// Always is no privilege; by never all flows.
func TestFlowsOfNoneAndAll(t *testing.T) {
	labels := []string{"always", "never", "always ; never", "never ; never", "http://a", "http://b", "always ; http://a", "http://a ; http://a", "http://a | http://b ; http://c & http://d", all(10, 26) + " ; " + some(10, 26)}
	for _, l := range labels {
		for _, o := range labels {
			plain, by := denied, needed
			if labeled(t, l).Flows(labeled(t, o)) {
				plain, by = without, without
			}
			flows(t, []flow{{"always", l, o, plain}, {"never", l, o, by}})
		}
	}
}

func TestFlowsOpenShutPure(t *testing.T) {
	const open, shut, pure = "always", "never", "always ; never"
	for _, p := range []string{"http://a", "http://a | http://b", "http://a & http://b", "http://a | http://b & http://c", "always"} {
		flows(t, []flow{
			{p, open, open, without}, {p, shut, shut, without}, {p, pure, pure, without},
			{p, open, shut, without}, {p, pure, open, without}, {p, pure, shut, without},
			{p, shut, open, denied}, {p, open, pure, denied}, {p, shut, pure, denied},
			{p, open, "http://a", without}, {p, pure, "http://a ; http://a", without}, {p, "http://z ; http://z", shut, without},
			{p, shut, "http://a", denied}, {p, "always ; http://a", pure, denied}, {p, "http://z", open, denied}, {p, open, "always ; http://z", denied},
		})
	}
	flows(t, []flow{
		{"never", shut, open, needed}, {"never", open, pure, needed}, {"never", shut, pure, needed}, {"never", open, shut, without},
		{"http://a", "http://a", open, needed}, {"http://a", open, "always ; http://a", needed}, {"http://a", "http://a", pure, denied}, {"http://a", shut, "always ; http://a", denied},
	})
}

// Together the formulas may have more clauses than one formula may: they flow all the same.
func TestFlowsOfMany(t *testing.T) {
	first, second, third := all(10, 26), all(26, 42), all(42, 58)
	half := all(18, 34)
	flows(t, []flow{
		{second, half, first, needed}, {third, half, first, denied}, {second, second, first, needed}, {second, third, first, denied},
		{second, "always ; " + first, "always ; " + half, needed}, {third, "always ; " + first, "always ; " + half, denied},
		{second, half + " ; " + first, first + " ; " + half, needed}, {second, half + " ; " + first, first + " ; " + third, denied},
		{some(10, 26), some(10, 26) + " & " + all(26, 41), all(26, 42), needed}, {some(10, 25), some(10, 26), second, needed}, {some(10, 26), some(10, 25), second, denied},
	})
}

// P10.1: Covers

func TestCovers(t *testing.T) {
	for _, c := range []struct {
		p, q string
		want bool
	}{
		{"always", "always", true}, {"never", "never", true}, {"never", "always", true}, {"always", "never", false},
		{"http://a", "always", true}, {"always", "http://a", false}, {"never", "http://a", true}, {"http://a", "never", false},
		{"http://a", "http://a", true}, {"http://a", "http://b", false}, {"http://a", "http://a | http://b", true}, {"http://a | http://b", "http://a", false},
		{"http://a & http://b", "http://a", true}, {"http://a", "http://a & http://b", false}, {"http://a & http://b", "http://b & http://a", true}, {"http://a & http://b", "http://a | http://c", true},
		{"http://a | http://b", "http://a | http://b", true}, {"http://a | http://b", "http://a | http://b | http://c", true}, {"http://a | http://b", "http://a | http://c", false},
		{"http://a | http://b & http://c", "http://c & http://a | http://b", true}, {"http://a | http://b & http://c", "http://a & http://c", false}, {all(10, 26), all(12, 20), true}, {all(12, 20), all(10, 26), false},
	} {
		if priv.Covers(of(t, c.p), of(t, c.q)) != c.want {
			t.Errorf("%q covers %q: %t", c.p, c.q, !c.want)
		}
	}
}

// P10.1: Both

func TestBoth(t *testing.T) {
	for _, c := range []struct{ p, q, want string }{
		{"always", "always", "always"}, {"never", "never", "never"}, {"always", "never", "never"},
		{"http://a", "always", "http://a"}, {"http://a", "never", "never"}, {"http://a", "http://a", "http://a"},
		{"http://a", "http://b", "http://a & http://b"}, {"http://a", "http://a | http://b", "http://a"}, {"http://a | http://b", "http://b | http://c", "http://a | http://b & http://b | http://c"},
		{"http://a & http://b", "http://b & http://c", "http://a & http://b & http://c"}, {"http://a | http://b & http://c", "http://a", "http://a & http://c"},
		{all(10, 18), all(18, 26), all(10, 26)}, {all(10, 26), all(12, 20), all(10, 26)}, {all(10, 26), "always", all(10, 26)}, {all(10, 26), "never", "never"}, {all(10, 26), all(10, 26), all(10, 26)},
		{all(10, 26), "http://p10 | http://z", all(10, 26)}, {some(10, 26), "http://p10", "http://p10"}, {some(10, 26), some(11, 27), some(10, 26) + " & " + some(11, 27)},
	} {
		f, e := priv.Both(of(t, c.p), of(t, c.q))
		is(t, "Both", f, e, c.want)
		f, e = priv.Both(of(t, c.q), of(t, c.p))
		is(t, "Both, the other way round", f, e, c.want)
	}
	for _, c := range [][2]string{{all(10, 26), "http://z"}, {all(10, 26), all(11, 27)}, {all(10, 19), all(19, 27)}, {all(10, 26), some(26, 42)}, {all(10, 26), all(26, 42)}} {
		f, e := priv.Both(of(t, c[0]), of(t, c[1]))
		refused(t, "Both, too long", f, e, api.ErrLong)
		f, e = priv.Both(of(t, c[1]), of(t, c[0]))
		refused(t, "Both, too long, the other way round", f, e, api.ErrLong)
	}
}

// P10.1: Least

func TestLeast(t *testing.T) {
	for _, c := range []struct{ p, l, s, i string }{
		{"http://a", "http://a", "always", "http://a"}, {"http://a", "http://b", "http://b", "http://a"}, {"http://a", "http://a & http://b", "http://b", "http://a"},
		{"http://a", "http://a | http://b", "always", "http://a"}, {"http://a", "http://a | http://b & http://b | http://c", "http://b | http://c", "http://a"}, {"http://a", "http://a ; http://b", "always", "http://a & http://b"},
		{"http://a", "http://a ; http://a", "always", "http://a"}, {"http://a", "http://b ; http://a | http://b", "http://b", "http://a"}, {"http://a", "http://b ; http://a & http://b", "http://b", "http://a & http://b"},
		{"http://a | http://b", "http://a", "http://a", "http://a | http://b"}, {"http://a | http://b", "http://a | http://b", "always", "http://a | http://b"}, {"http://a | http://b", "http://a | http://b | http://c & http://d ; http://a", "http://d", "http://a"},
		{"http://a | http://b", "http://a | http://c ; http://b | http://c", "http://a | http://c", "http://a | http://b & http://b | http://c"},
		{"http://a & http://b", "http://a", "always", "http://a & http://b"}, {"http://a & http://b", "http://a & http://b", "always", "http://a & http://b"}, {"http://a & http://b", "http://a & http://b & http://c ; http://d", "http://c", "http://a & http://b & http://d"},
		{"http://a | http://b & http://c", "http://a & http://c ; http://b", "http://a", "http://b & http://c"}, {"http://a & http://b", "http://c | http://d", "http://c | http://d", "http://a & http://b"},

		{"http://a", "always", "always", "http://a"}, {"http://a", "never", "never", "http://a"}, {"http://a", "always ; never", "always", "never"}, {"http://a", "never ; never", "never", "never"},
		{"always", "always", "always", "always"}, {"always", "never", "never", "always"}, {"always", "always ; never", "always", "never"}, {"always", "http://a | http://b ; http://c", "http://a | http://b", "http://c"},
		{"never", "always", "always", "never"}, {"never", "never", "always", "never"}, {"never", "http://a & http://b ; http://c", "always", "never"}, {"never", "never ; never", "always", "never"},

		// Just 16 are none too many; nor are more that are left out.
		{all(10, 18), "http://a ; " + all(18, 26), "http://a", all(10, 26)}, {all(10, 26), all(18, 34) + " ; http://p12", all(26, 34), all(10, 26)}, {all(10, 26), all(10, 26) + " ; " + all(10, 26), "always", all(10, 26)},
		{all(10, 26), all(10, 26) + " ; never", "always", "never"}, {"never", all(10, 26) + " ; " + all(10, 26), "always", "never"}, {some(10, 26), some(10, 26) + " & http://a ; " + some(10, 20), "http://a", some(10, 20)},
	} {
		l, e := priv.Least(of(t, c.p), labeled(t, c.l))
		is(t, "S of Least, by "+c.p+", of "+short(c.l), l.S, e, c.s)
		is(t, "I of Least, by "+c.p+", of "+short(c.l), l.I, e, c.i)
	}
}

// Where And has an error nothing of the label stands beside it, even where S would be something.
func TestLeastLong(t *testing.T) {
	for _, c := range []struct{ p, l string }{
		{"http://z", "always ; " + all(10, 26)}, {"http://z", "http://z & http://a ; " + all(10, 26)}, {"http://z", "http://a ; " + all(10, 26)}, {"http://z", "never ; " + all(10, 26)},
		{all(10, 26), "http://a ; http://b"}, {all(10, 26), all(10, 26) + " ; " + some(26, 42)}, {all(10, 19), "always ; " + all(19, 27)},
	} {
		l, e := priv.Least(of(t, c.p), labeled(t, c.l))
		refused(t, "S of Least, too long", l.S, e, api.ErrLong)
		refused(t, "I of Least, too long", l.I, e, api.ErrLong)
	}
}

// P10.2: by more privilege more flows.
func TestFlowsByMore(t *testing.T) {
	flows(t, []flow{
		{"always", "http://a & http://b", "always", denied}, {"http://a", "http://a & http://b", "always", denied}, {"http://b", "http://a & http://b", "always", denied}, {"http://a & http://b", "http://a & http://b", "always", needed}, {"http://a & http://b & http://c", "http://a & http://b", "always", needed}, {"never", "http://a & http://b", "always", needed},
		{"http://a | http://b", "http://a", "always", denied}, {"http://a", "http://a", "always", needed}, {"http://a | http://b", "http://a | http://b", "always", needed}, {"http://a", "http://a | http://b", "always", needed},
		{"http://a | http://b", "always", "always ; http://a", denied}, {"http://a", "always", "always ; http://a", needed}, {"http://a & http://c", "always", "always ; http://a", needed}, {"http://a & http://c", "always ; http://b", "always ; http://a & http://b", needed},
	})
}

// The chapter's and the document's examples.
func TestExamples(t *testing.T) {
	p, e := priv.Own("http://a")
	a, _ := label.Of("http://a")
	b, _ := label.Of("http://b")
	if e != api.OK || !priv.Flows(p, a, label.Open()) || priv.Flows(p, b, label.Open()) {
		t.Errorf("by the privilege of http://a: %d", int(e))
	}
}
