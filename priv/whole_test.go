package priv_test

import (
	"slices"
	"strings"
	"testing"

	"cordon/api"
	"cordon/clause"
	"cordon/formula"
	"cordon/label"
	"cordon/priv"
)

// known are some principals, rising, out of whom the tests make all formulas and labels.
var known = []string{"closed:7", "http://a", "https://a"}

// truth: a bit a set of principals, set if a formula holds for it.
type truth uint8

// toldFormula is a formula, and for which sets it holds.
type toldFormula struct {
	f formula.Formula
	t truth
}

// toldLabel is a label, and for which sets its formulas hold.
type toldLabel struct {
	l    label.Label
	s, i truth
}

// truthOf: for which sets of the first few principals known a formula holds, by the clauses that it has.
func truthOf(f formula.Formula, few int) truth {
	var all truth
	for agree := range 1 << few {
		holds := true
		for c := range f.All() {
			some := false
			for i, p := range known[:few] {
				some = some || agree>>i&1 == 1 && c.Has(p)
			}
			holds = holds && some
		}
		if holds {
			all |= 1 << agree
		}
	}
	return all
}

// marked: the clause of the principals known whose bits are set.
func marked(t *testing.T, bits int) clause.Clause {
	t.Helper()
	var l []string
	for i, p := range known {
		if bits>>i&1 == 1 {
			l = append(l, p)
		}
	}
	c, e := clause.Of(l...)
	if e != api.OK {
		t.Fatalf("clause of %q: %d", l, int(e))
	}
	return c
}

// everyFormula: all formulas of the first few principals known, each once.
func everyFormula(t *testing.T, few int) []toldFormula {
	t.Helper()
	var every []toldFormula
	sets := 1 << few
	for clauses := range 1 << sets {
		var l []clause.Clause
		for bits := range sets {
			if clauses>>bits&1 == 1 {
				l = append(l, marked(t, bits))
			}
		}
		f, e := formula.Of(l...)
		if e != api.OK {
			t.Fatalf("Of %b: %d", clauses, int(e))
		}
		x := toldFormula{f, truthOf(f, few)}
		if !slices.ContainsFunc(every, func(y toldFormula) bool { return x.t == y.t }) {
			every = append(every, x)
		}
	}
	if want := []int{2, 3, 6, 20}[few]; len(every) != want { // Dedekind's numbers
		t.Fatalf("%d formulas of %d principals", len(every), few)
	}
	return every
}

// everyLabel: all labels of the first few principals known.
func everyLabel(t *testing.T, few int) []toldLabel {
	t.Helper()
	var every []toldLabel
	formulas := everyFormula(t, few)
	for _, s := range formulas {
		for _, i := range formulas {
			every = append(every, toldLabel{label.Label{S: s.f, I: i.f}, s.t, i.t})
		}
	}
	return every
}

// mayFlow: may a label flow to another one by a privilege? By the sets alone: where that one's S and the privilege hold its own S does, and where its own I and the privilege hold that one's I does.
func mayFlow(p truth, x, y toldLabel) bool { return y.s&p&^x.s == 0 && x.i&p&^y.i == 0 }

// anyway: may it flow without a privilege? By the sets alone.
func anyway(x, y toldLabel) bool { return y.s&^x.s == 0 && x.i&^y.i == 0 }

// P10.1 and P10.2, of all privileges and all pairs of labels of some principals: Flows, Needs and Least are as the sets tell.
func holdsAgainstSets(t *testing.T, privileges []toldFormula, labels []toldLabel, few int) {
	t.Helper()
	for _, p := range privileges {
		for _, x := range labels {
			least, e := priv.Least(p.f, x.l)
			if e != api.OK || truthOf(least.I, few) != x.i&p.t || !priv.Flows(p.f, x.l, least) {
				t.Fatalf("Least by %q of %q: %q, %d", p.f.Text(), x.l.Text(), least.Text(), int(e))
			}
			for _, y := range labels {
				want, plain := mayFlow(p.t, x, y), anyway(x, y)
				if priv.Flows(p.f, x.l, y.l) != want {
					t.Fatalf("by %q %q flows to %q: %t", p.f.Text(), x.l.Text(), y.l.Text(), !want)
				}
				if needs, by := priv.Needs(p.f, x.l, y.l); needs != (want && !plain) || by != want {
					t.Fatalf("by %q %q to %q: Needs %t, %t", p.f.Text(), x.l.Text(), y.l.Text(), needs, by)
				}
				if least.Flows(y.l) != want {
					t.Fatalf("by %q the least of %q, %q, flows to %q: %t", p.f.Text(), x.l.Text(), least.Text(), y.l.Text(), !want)
				}
			}
		}
	}
}

func TestEveryPairOfTwo(t *testing.T) {
	holdsAgainstSets(t, everyFormula(t, 2), everyLabel(t, 2), 2)
}

func TestEveryPairOfThree(t *testing.T) {
	holdsAgainstSets(t, everyFormula(t, 3), everyLabel(t, 3), 3)
}

// P10.1, of all pairs of privileges of three principals: Covers and Both are as the sets tell.
func TestEveryTwoPrivileges(t *testing.T) {
	every := everyFormula(t, 3)
	for _, p := range every {
		for _, q := range every {
			if priv.Covers(p.f, q.f) != (p.t&^q.t == 0) {
				t.Errorf("%q covers %q: %t", p.f.Text(), q.f.Text(), p.t&^q.t != 0)
			}
			both, e := priv.Both(p.f, q.f)
			if e != api.OK || truthOf(both, 3) != p.t&q.t || !priv.Covers(both, p.f) || !priv.Covers(both, q.f) {
				t.Errorf("Both %q and %q: %q, %d", p.f.Text(), q.f.Text(), both.Text(), int(e))
			}
		}
	}
}

// P10.2: what flows by a privilege flows by each that covers it, and by it with any other one; what flows, by any.
func TestMoreFlowsByMore(t *testing.T) {
	privileges, labels := everyFormula(t, 2), everyLabel(t, 2)
	for _, p := range privileges {
		for _, q := range privileges {
			both, e := priv.Both(p.f, q.f)
			if e != api.OK {
				t.Fatalf("Both %q and %q: %d", p.f.Text(), q.f.Text(), int(e))
			}
			for _, x := range labels {
				for _, y := range labels {
					byP := priv.Flows(p.f, x.l, y.l)
					if x.l.Flows(y.l) && !byP {
						t.Fatalf("%q flows to %q, and not by %q", x.l.Text(), y.l.Text(), p.f.Text())
					}
					if byP && (priv.Covers(q.f, p.f) && !priv.Flows(q.f, x.l, y.l) || !priv.Flows(both, x.l, y.l)) {
						t.Fatalf("%q flows to %q by %q, and not by it and %q", x.l.Text(), y.l.Text(), p.f.Text(), q.f.Text())
					}
				}
			}
		}
	}
}

// P10.2: by none nothing more flows, by never all does.
func TestNoneAndNever(t *testing.T) {
	labels := everyLabel(t, 3)
	for _, x := range labels {
		for _, y := range labels {
			if priv.Flows(formula.Always(), x.l, y.l) != x.l.Flows(y.l) || !priv.Flows(formula.Never(), x.l, y.l) {
				t.Fatalf("%q to %q: by always %t, by never %t", x.l.Text(), y.l.Text(), priv.Flows(formula.Always(), x.l, y.l), priv.Flows(formula.Never(), x.l, y.l))
			}
		}
		none, e1 := priv.Least(formula.Always(), x.l)
		never, e2 := priv.Least(formula.Never(), x.l)
		if e1 != api.OK || e2 != api.OK || !none.Same(x.l) || !never.Same(label.Pure()) {
			t.Fatalf("Least of %q: by always %q, %d, by never %q, %d", x.l.Text(), none.Text(), int(e1), never.Text(), int(e2))
		}
	}
}

// Along three labels: what flows by a privilege to a label that flows by it to another one flows by it to that; by two privileges it flows by both together.
func TestEveryThree(t *testing.T) {
	labels := everyLabel(t, 2)
	for _, p := range everyFormula(t, 2) {
		next := make([][]int, len(labels)) // the places of those to which each flows
		for i, x := range labels {
			for j, y := range labels {
				if priv.Flows(p.f, x.l, y.l) {
					next[i] = append(next[i], j)
				}
			}
		}
		for i := range labels {
			for _, j := range next[i] {
				for _, k := range next[j] {
					if !slices.Contains(next[i], k) {
						t.Fatalf("by %q %q flows to %q, that to %q, and not", p.f.Text(), labels[i].l.Text(), labels[j].l.Text(), labels[k].l.Text())
					}
				}
			}
		}
	}
	a, b := of(t, "http://a"), of(t, "http://b")
	both, e := priv.Both(a, b)
	from, over, to := labeled(t, "http://a & http://b"), labeled(t, "http://b ; http://a"), labeled(t, "always ; http://a & http://b")
	if e != api.OK || !priv.Flows(a, from, over) || !priv.Flows(b, over, to) || priv.Flows(a, from, to) || priv.Flows(b, from, to) || !priv.Flows(both, from, to) {
		t.Errorf("by two privileges, one behind the other: %d", int(e))
	}
}

// P10.2 beyond a few principals, and where formulas are as long as they may be: a label flows by a privilege to its least, that to all to which the label flows by it, and to no other ones.
func TestLaws(t *testing.T) {
	var labels []label.Label
	formulas := []string{"always", "never", all(10, 26), all(18, 34), some(10, 26), some(10, 14) + " & " + some(12, 16) + " & https://a", all(20, 22) + " & closed:7"}
	for _, s := range formulas {
		for _, i := range formulas {
			labels = append(labels, labeled(t, s+" ; "+i))
		}
	}
	for _, text := range formulas {
		p := of(t, text)
		for _, l := range labels {
			down, e := priv.Least(p, l)
			if e == api.ErrLong {
				if _, errno := priv.Both(l.I, p); errno != api.ErrLong || !down.Same(label.Open()) {
					t.Fatalf("Least by %.80q of %.80q: %.80q, %d", text, l.Text(), down.Text(), int(e))
				}
				continue
			}
			if e != api.OK || !down.Flows(l) || !priv.Flows(p, l, down) {
				t.Fatalf("Least by %.80q of %.80q: %.80q, %d", text, l.Text(), down.Text(), int(e))
			}
			for _, o := range labels {
				by := priv.Flows(p, l, o)
				if down.Flows(o) != by {
					t.Errorf("by %.80q the least of %.80q flows to %.80q: %t", text, l.Text(), o.Text(), !by)
				}
				if needs, flows := priv.Needs(p, l, o); flows != by || needs != (by && !l.Flows(o)) {
					t.Errorf("by %.80q %.80q to %.80q: Needs %t, %t", text, l.Text(), o.Text(), needs, flows)
				}
			}
		}
	}
}

// R1: any text, any bytes, and zero values.
func TestAnything(t *testing.T) {
	for _, in := range []string{"\x00", "http://a\x00", "\xff\xfe", strings.Repeat("\xff", api.MaxText), strings.Repeat("http://", 1<<18), strings.Repeat("a", 1<<20)} {
		f, e := priv.Own(in)
		refused(t, "Own", f, e, api.ErrForm)
	}
	var none formula.Formula
	var open label.Label
	needs, flows := priv.Needs(none, open, open)
	both, e1 := priv.Both(none, none)
	least, e2 := priv.Least(none, open)
	if needs || !flows || !priv.Flows(none, open, open) || !priv.Covers(none, none) || e1 != api.OK || both.Len() != 0 || e2 != api.OK || !least.Same(open) {
		t.Errorf("of zero values: %t, %t, %q, %d, %q, %d", needs, flows, both.Text(), int(e1), least.Text(), int(e2))
	}
}

// R4: what is handed in stays as it was, and answers aren't changed by what is made of them.
func TestAllStays(t *testing.T) {
	const texts, textL, textO = "http://a & http://b | http://c", "http://a & http://b & http://d ; http://e & http://f | http://g", "http://d ; http://a"
	p, l, o := of(t, texts), labeled(t, textL), labeled(t, textO)
	least, e := priv.Least(p, l)
	both, e2 := priv.Both(p, l.S)
	alone, e3 := priv.Both(p, formula.Always())
	same, e4 := priv.Least(formula.Always(), l)
	if e != api.OK || e2 != api.OK || e3 != api.OK || e4 != api.OK {
		t.Fatalf("%d, %d, %d, %d", int(e), int(e2), int(e3), int(e4))
	}
	for range 3 {
		priv.Flows(p, l, o)
		priv.Needs(p, l, o)
		priv.Covers(p, l.S)
		wider, _ := priv.Both(least.I, of(t, "http://z & http://y"))
		further, _ := priv.Least(l.S, least)
		for _, f := range []formula.Formula{p, l.S, l.I, o.S, o.I, least.S, least.I, both, alone, same.S, same.I, wider, further.S, further.I} {
			clear(slices.Collect(f.All()))
		}
	}
	is(t, "the privilege", p, api.OK, texts)
	is(t, "the label's S", l.S, api.OK, "http://a & http://b & http://d")
	is(t, "the label's I", l.I, api.OK, "http://e & http://f | http://g")
	is(t, "the other label's S", o.S, api.OK, "http://d")
	is(t, "the other label's I", o.I, api.OK, "http://a")
	is(t, "the least's S", least.S, api.OK, "http://b & http://d")
	is(t, "the least's I", least.I, api.OK, "http://a & http://b | http://c & http://e & http://f | http://g")
	is(t, "both", both, api.OK, "http://a & http://b & http://d")
	is(t, "one alone", alone, api.OK, texts)
	same.S, same.I = formula.Never(), formula.Never()
	if l.Text() != textL {
		t.Errorf("the label: %q", l.Text())
	}
}
