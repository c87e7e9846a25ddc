package sorted_test

import (
	"cmp"
	"math"
	"slices"
	"testing"

	"cordon/sorted"
)

// width is how many values the sets of marked may have.
const width = 5

// marked: the set of the values whose bits are set.
func marked(bits int) sorted.Set[int] {
	var l []int
	for i := range width {
		if x := i * 3 % width; bits>>x&1 == 1 { // not in their order
			l = append(l, x)
		}
	}
	return sorted.Of(l...)
}

// bitsOf: the other way round.
func bitsOf(t *testing.T, s sorted.Set[int]) int {
	t.Helper()
	l := values(t, s)
	if !slices.IsSorted(l) || len(slices.Compact(slices.Clone(l))) != len(l) {
		t.Errorf("%v doesn't rise", l)
	}
	bits := 0
	for _, x := range l {
		bits |= 1 << x
	}
	return bits
}

func is(t *testing.T, what string, a, b int, got sorted.Set[int], want int) {
	t.Helper()
	if bits := bitsOf(t, got); bits != want {
		t.Errorf("%s of %b and %b: %b, not %b", what, a, b, bits, want)
	}
}

// P2.1 and P2.2 once more, of all small sets, by bits.
func TestSmallSets(t *testing.T) {
	for a := range 1 << width {
		s := marked(a)
		for x := range width {
			if s.Has(x) != (a>>x&1 == 1) {
				t.Errorf("Has(%d) of %b", x, a)
			}
		}
		for b := range 1 << width {
			o := marked(b)
			is(t, "Join", a, b, s.Join(o), a|b)
			is(t, "Meet", a, b, s.Meet(o), a&b)
			is(t, "Minus", a, b, s.Minus(o), a&^b)
			is(t, "With", a, b, s.With(values(t, o)...), a|b)
			is(t, "Without", a, b, s.Without(values(t, o)...), a&^b)
			if s.Sub(o) != (a&^b == 0) {
				t.Errorf("Sub of %b and %b", a, b)
			}
			if got := s.Cmp(o); got != slices.Compare(values(t, s), values(t, o)) {
				t.Errorf("Cmp of %b and %b: %d", a, b, got)
			}
			shifted := sorted.Map(s, func(x int) int { return (x + b) % 3 })
			want := 0
			for x := range width {
				want |= a >> x & 1 << ((x + b) % 3)
			}
			is(t, "Map", a, b, shifted, want)
		}
	}
}

// P2.3

func equal[T cmp.Ordered](t *testing.T, what string, got, want sorted.Set[T]) {
	t.Helper()
	if got.Cmp(want) != 0 || !slices.Equal(values(t, got), values(t, want)) {
		t.Errorf("%s: %v, not %v", what, values(t, got), values(t, want))
	}
}

// laws: what joins and meets of any three sets are.
func laws[T cmp.Ordered](t *testing.T, a, b, c sorted.Set[T]) {
	t.Helper()
	equal(t, "the order of a join", a.Join(b), b.Join(a))
	equal(t, "the order of a meet", a.Meet(b), b.Meet(a))
	equal(t, "the order of two joins", a.Join(b).Join(c), a.Join(b.Join(c)))
	equal(t, "the order of two meets", a.Meet(b).Meet(c), a.Meet(b.Meet(c)))
	equal(t, "a join through a meet", a.Join(b.Meet(c)), a.Join(b).Meet(a.Join(c)))
	equal(t, "a meet through a join", a.Meet(b.Join(c)), a.Meet(b).Join(a.Meet(c)))
	equal(t, "a join with a meet of it", a.Join(a.Meet(b)), a)
	equal(t, "a meet with a join of it", a.Meet(a.Join(b)), a)
	equal(t, "a meet and a minus, joined", a.Meet(b).Join(a.Minus(b)), a)
	equal(t, "a meet and a minus, met", a.Meet(b).Meet(a.Minus(b)), sorted.Of[T]())
	if a.Sub(b) != (a.Meet(b).Cmp(a) == 0) || a.Sub(b) != (a.Join(b).Cmp(b) == 0) {
		t.Errorf("Sub of %v in %v: %t", values(t, a), values(t, b), a.Sub(b))
	}
	if a.Cmp(b) != -b.Cmp(a) {
		t.Errorf("Cmp of %v and %v: %d, %d", values(t, a), values(t, b), a.Cmp(b), b.Cmp(a))
	}
}

func TestLaws(t *testing.T) {
	for a := range 1 << width {
		for b := range 1 << width {
			for c := range 1 << width {
				laws(t, marked(a), marked(b), marked(c))
			}
		}
	}
}

func TestLawsOfManyTypes(t *testing.T) {
	words := []sorted.Set[string]{sorted.Of[string](), sorted.Of(""), sorted.Of("a", "ab"), sorted.Of("ab", "\xff", ""), sorted.Of("b", "a", "c")}
	floats := []sorted.Set[float64]{sorted.Of[float64](), sorted.Of(0.5, -0.5), sorted.Of(math.Inf(1), 0.5), sorted.Of(math.Inf(-1), math.Inf(1))}
	bytes := []sorted.Set[byte]{sorted.Of[byte](), sorted.Of[byte](0, 255), sorted.Of[byte](255, 128), sorted.Of[byte](1)}
	lawsOfAll(t, words)
	lawsOfAll(t, floats)
	lawsOfAll(t, bytes)
}

func lawsOfAll[T cmp.Ordered](t *testing.T, l []sorted.Set[T]) {
	t.Helper()
	for _, a := range l {
		for _, b := range l {
			for _, c := range l {
				laws(t, a, b, c)
			}
		}
	}
}

// roomy: a list with spare room behind it that isn't empty, and all of its memory.
func roomy(l ...int) (handedIn, memory []int) {
	memory = append(append([]int{-7}, l...), 99, 98, 97)
	return memory[1 : 1+len(l)], memory
}

// takers: each call that is handed a list, with what it answers.
func takers(base sorted.Set[int]) map[string]func(l []int) sorted.Set[int] {
	return map[string]func(l []int) sorted.Set[int]{
		"Of":      func(l []int) sorted.Set[int] { return sorted.Of(l...) },
		"With":    func(l []int) sorted.Set[int] { return base.With(l...) },
		"Without": func(l []int) sorted.Set[int] { return base.Without(l...) },
	}
}

func TestNothingHandedInIsChangedOrKept(t *testing.T) {
	for _, base := range []sorted.Set[int]{sorted.Of[int](), sorted.Of(2), sorted.Of(1, 5, 9)} {
		for name, f := range takers(base) {
			for _, l := range [][]int{{}, {5}, {3, 1, 3}, {9, 5, 1}, {1, 2, 3, 4}, {4, 4, 4}} {
				in, memory := roomy(l...)
				before := slices.Clone(memory)
				s := f(in)
				if !slices.Equal(memory, before) {
					t.Errorf("%s of %v changes what is handed in: %v", name, l, memory)
				}
				want := values(t, s)
				all := s.All()
				for i := range memory {
					memory[i] = 1000 - i
				}
				holds(t, name+" of a list that changed since", s, want...)
				for i, x := range all {
					if x != want[i] {
						t.Errorf("%s: All of a list that changed since: %d", name, x)
					}
				}
			}
		}
	}
}

// A set is never changed: not by what is made of it, nor by what is made of what was made.
func TestSetsAreNeverChanged(t *testing.T) {
	for a := range 1 << width {
		s, o := marked(a), sorted.Of(-1, 2, 7)
		copied := s
		made := []sorted.Set[int]{
			s.With(), s.With(-1), s.With(2), s.With(7), s.With(8), s.Without(), s.Without(0, 4), s.Without(2),
			s.Join(o), o.Join(s), s.Join(sorted.Of[int]()), s.Meet(o), o.Meet(s), s.Meet(s), s.Minus(o), s.Minus(sorted.Of[int]()), o.Minus(s),
			sorted.Map(s, func(x int) int { return -x }), sorted.Map(s, func(x int) int { return x }),
		}
		var want [][]int
		for _, m := range made {
			want = append(want, values(t, m))
		}
		for _, m := range made {
			m.With(-9, 9, 10, 11)
			m.Without(-1, 1)
			m.Join(sorted.Of(3, 30))
			m.Meet(sorted.Of(1, 2))
			m.Minus(sorted.Of(0))
			sorted.Map(m, func(x int) int { return 5 - x })
		}
		for i, m := range made {
			holds(t, "a set that others were made of", m, want[i]...)
		}
		is(t, "the first set", a, a, s, a)
		is(t, "its copy", a, a, copied, a)
		holds(t, "the other set", o, -1, 2, 7)
	}
}

// What is made twice of one set stands for itself: no room is shared behind the set's values.
func TestMadeTwice(t *testing.T) {
	for n := range 20 {
		var s sorted.Set[int]
		for i := range n {
			s = s.With(i)
		}
		a, b := s.With(100), s.With(200)
		if !a.Has(100) || a.Has(200) || b.Has(100) || !b.Has(200) || s.Len() != n {
			t.Errorf("of %d: %v, %v", n, values(t, a), values(t, b))
		}
	}
}
