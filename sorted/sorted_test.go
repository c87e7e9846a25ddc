package sorted_test

import (
	"cmp"
	"math"
	"slices"
	"strconv"
	"testing"

	"cordon/sorted"
)

// values: what a set's iterator tells; it fails when the places aren't 0, 1, .., or when Len or At tell otherwise.
func values[T cmp.Ordered](t *testing.T, s sorted.Set[T]) []T {
	t.Helper()
	var l []T
	for i, x := range s.All() {
		if i != len(l) {
			t.Errorf("the place is %d, not %d", i, len(l))
		}
		if at, ok := s.At(i); !ok || at != x {
			t.Errorf("At(%d): %v, %t, not %v", i, at, ok, x)
		}
		l = append(l, x)
	}
	if s.Len() != len(l) {
		t.Errorf("Len: %d of %v", s.Len(), l)
	}
	return l
}

func holds[T cmp.Ordered](t *testing.T, what string, s sorted.Set[T], want ...T) {
	t.Helper()
	if got := values(t, s); !slices.Equal(got, want) {
		t.Errorf("%s: %v, not %v", what, got, want)
	}
}

// number is a type of the tests' own that is ordered.
type number int

// P2.1

func TestOf(t *testing.T) {
	holds(t, "Of three, one twice", sorted.Of(3, 1, 3), 1, 3)
	holds(t, "Of one", sorted.Of(7), 7)
	holds(t, "Of one, often", sorted.Of(7, 7, 7, 7), 7)
	holds(t, "Of falling ones", sorted.Of(5, 4, 3, 2, 1), 1, 2, 3, 4, 5)
	holds(t, "Of rising ones", sorted.Of(1, 2, 3), 1, 2, 3)
	holds(t, "Of each twice", sorted.Of(2, 1, 2, 1), 1, 2)
	holds(t, "Of both ends", sorted.Of(math.MaxInt, 0, math.MinInt, -1), math.MinInt, -1, 0, math.MaxInt)
	holds(t, "Of nothing", sorted.Of[int]())
	holds(t, "Of nil", sorted.Of([]int(nil)...))
	holds(t, "Of an empty list", sorted.Of([]int{}...))
	holds(t, "Of noughts", sorted.Of(0, 0), 0)
}

func TestOfManyTypes(t *testing.T) {
	holds(t, "texts", sorted.Of("b", "", "a", "b"), "", "a", "b")
	holds(t, "texts by their bytes", sorted.Of("\u00e9", "z", "a", "Z", "ab", "\xff", "\x00", "a\x00"), "\x00", "Z", "a", "a\x00", "ab", "z", "\u00e9", "\xff")
	holds(t, "bytes", sorted.Of[byte](255, 0, 128, 255), 0, 128, 255)
	holds(t, "small integers", sorted.Of[int8](127, -128, 0, -1), -128, -1, 0, 127)
	holds(t, "great integers", sorted.Of[uint64](math.MaxUint64, 1, 1<<63), 1, 1<<63, math.MaxUint64)
	holds(t, "floats", sorted.Of(0.5, math.Inf(1), -0.5, math.Inf(-1), 0.5), math.Inf(-1), -0.5, 0.5, math.Inf(1))
	holds(t, "an own type", sorted.Of[number](2, 1, 2), 1, 2)
}

// The two noughts of floats are one value.
func TestNoughts(t *testing.T) {
	minus := math.Copysign(0, -1)
	holds(t, "Of both", sorted.Of(0, minus), 0)
	holds(t, "With", sorted.Of(minus).With(0), 0)
	holds(t, "Without", sorted.Of(minus).Without(0))
	if !sorted.Of(minus).Has(0) || sorted.Of(minus).Cmp(sorted.Of(0.0)) != 0 {
		t.Error("the noughts aren't one value")
	}
}

func TestOfMany(t *testing.T) {
	var l, want []int
	for i := range 5000 {
		l = append(l, (i*7919)%5000, (i*104729)%5000)
		want = append(want, i)
	}
	holds(t, "Of many", sorted.Of(l...), want...)
}

func TestHas(t *testing.T) {
	s := sorted.Of(2, 4, 6, 8, 10)
	for x := -1; x < 13; x++ {
		if want := x%2 == 0 && x >= 2 && x <= 10; s.Has(x) != want {
			t.Errorf("Has(%d): %t", x, !want)
		}
	}
	if s.Has(math.MinInt) || s.Has(math.MaxInt) {
		t.Error("Has tells a value at an end")
	}
	if sorted.Of[int]().Has(0) || sorted.Of[string]().Has("") {
		t.Error("an empty set has one")
	}
	words := sorted.Of("a", "ab", "b")
	for text, want := range map[string]bool{"a": true, "ab": true, "b": true, "": false, "A": false, "aa": false, "abc": false, "c": false} {
		if words.Has(text) != want {
			t.Errorf("Has(%q): %t", text, !want)
		}
	}
}

func TestAt(t *testing.T) {
	s := sorted.Of("b", "a", "c")
	for i, want := range []string{"a", "b", "c"} {
		if x, ok := s.At(i); x != want || !ok {
			t.Errorf("At(%d): %q, %t", i, x, ok)
		}
	}
	for _, i := range []int{-1, 3, 4, math.MinInt, math.MaxInt} {
		if x, ok := s.At(i); x != "" || ok {
			t.Errorf("At(%d): %q, %t", i, x, ok)
		}
		if x, ok := sorted.Of(7).At(i); x != 0 || ok {
			t.Errorf("At(%d) of one: %d, %t", i, x, ok)
		}
	}
	if x, ok := sorted.Of[int]().At(0); x != 0 || ok {
		t.Errorf("At(0) of none: %d, %t", x, ok)
	}
}

func TestZeroValue(t *testing.T) {
	var s sorted.Set[int]
	holds(t, "the zero value", s)
	holds(t, "with one", s.With(2, 1), 1, 2)
	holds(t, "without one", s.Without(1))
	holds(t, "joined", s.Join(sorted.Of(1)), 1)
	holds(t, "joined to", sorted.Of(1).Join(s), 1)
	holds(t, "met", s.Meet(sorted.Of(1)))
	holds(t, "met by", sorted.Of(1).Meet(s))
	holds(t, "less one", s.Minus(sorted.Of(1)))
	holds(t, "less none", sorted.Of(1).Minus(s), 1)
	holds(t, "mapped", sorted.Map(s, strconv.Itoa))
	if !s.Sub(s) || !s.Sub(sorted.Of(1)) || sorted.Of(1).Sub(s) {
		t.Error("Sub of the zero value")
	}
	if s.Cmp(s) != 0 || s.Cmp(sorted.Of[int]()) != 0 || s.Cmp(sorted.Of(1)) != -1 || sorted.Of(1).Cmp(s) != 1 {
		t.Error("Cmp of the zero value")
	}
}

func TestStopEarly(t *testing.T) {
	all := sorted.Of("d", "a", "c", "b").All()
	for n := 1; n <= 4; n++ {
		told := 0
		all(func(int, string) bool {
			told++
			return told < n
		})
		if told != n {
			t.Errorf("stopped at %d, told %d", n, told)
		}
	}
	for i, x := range all {
		if i == 1 {
			break
		}
		if i > 1 || x != "a" {
			t.Error("All goes on after a break")
		}
	}
}

func TestGoneThroughTwice(t *testing.T) {
	s := sorted.Of(3, 1, 2)
	all := s.All()
	pairs := 0
	for i, x := range all {
		for j, y := range all {
			if (i < j) != (x < y) {
				t.Errorf("%d at %d, %d at %d", x, i, y, j)
			}
			pairs++
		}
	}
	if pairs != 9 {
		t.Errorf("one pass within another one: %d pairs", pairs)
	}
}

func TestWithAndWithout(t *testing.T) {
	s := sorted.Of(2, 4)
	holds(t, "With one", s.With(3), 2, 3, 4)
	holds(t, "With one ahead", s.With(1), 1, 2, 4)
	holds(t, "With one behind", s.With(5), 2, 4, 5)
	holds(t, "With one that is there", s.With(2), 2, 4)
	holds(t, "With some", s.With(5, 1, 4, 5), 1, 2, 4, 5)
	holds(t, "With nothing", s.With(), 2, 4)
	holds(t, "With nil", s.With([]int(nil)...), 2, 4)
	holds(t, "Without one", s.Without(2), 4)
	holds(t, "Without one that isn't there", s.Without(3), 2, 4)
	holds(t, "Without some", sorted.Of(1, 2, 3, 4).Without(4, 9, 2, 4), 1, 3)
	holds(t, "Without all", s.Without(4, 2))
	holds(t, "Without nothing", s.Without(), 2, 4)
	holds(t, "Without nil", s.Without([]int(nil)...), 2, 4)
	holds(t, "the set itself", s, 2, 4)
}

// P2.2

func TestJoinMeetMinus(t *testing.T) {
	s, o := sorted.Of(1, 2), sorted.Of(2, 3)
	holds(t, "Join", s.Join(o), 1, 2, 3)
	holds(t, "Meet", s.Meet(o), 2)
	holds(t, "Minus", s.Minus(o), 1)
	holds(t, "Minus the other way", o.Minus(s), 3)
	apart, far := sorted.Of("a", "c"), sorted.Of("b", "d")
	holds(t, "Join of sets apart", apart.Join(far), "a", "b", "c", "d")
	holds(t, "Meet of sets apart", apart.Meet(far))
	holds(t, "Minus of sets apart", apart.Minus(far), "a", "c")
	holds(t, "Join with itself", s.Join(s), 1, 2)
	holds(t, "Meet with itself", s.Meet(s), 1, 2)
	holds(t, "Minus itself", s.Minus(s))
	holds(t, "Join of ones in a row", sorted.Of(5, 6).Join(s), 1, 2, 5, 6)
	holds(t, "Meet of a part", sorted.Of(1, 2, 3).Meet(sorted.Of(1, 3, 9)), 1, 3)
}

func TestSub(t *testing.T) {
	for _, c := range []struct {
		s, o []int
		want bool
	}{
		{nil, nil, true}, {nil, []int{1}, true}, {[]int{1}, nil, false},
		{[]int{1}, []int{1}, true}, {[]int{1}, []int{2}, false}, {[]int{2}, []int{1}, false},
		{[]int{1, 3}, []int{1, 2, 3}, true}, {[]int{1, 2, 3}, []int{1, 3}, false},
		{[]int{3}, []int{1, 2, 3}, true}, {[]int{4}, []int{1, 2, 3}, false}, {[]int{0}, []int{1, 2, 3}, false},
		{[]int{1, 4}, []int{1, 2, 3}, false}, {[]int{0, 1}, []int{1, 2, 3}, false}, {[]int{1, 1, 2}, []int{2, 1}, true},
	} {
		if got := sorted.Of(c.s...).Sub(sorted.Of(c.o...)); got != c.want {
			t.Errorf("Sub of %v in %v: %t", c.s, c.o, got)
		}
	}
}

func TestCmp(t *testing.T) {
	rising := []sorted.Set[string]{
		sorted.Of[string](),
		sorted.Of(""),
		sorted.Of("", "a"),
		sorted.Of("a"),
		sorted.Of("a", "aa", "z"),
		sorted.Of("a", "b"),
		sorted.Of("a", "b", "c"),
		sorted.Of("a", "c"),
		sorted.Of("b"),
		sorted.Of("c", "d"),
		sorted.Of("\u00e9"),
		sorted.Of("\xff"),
	}
	for i, s := range rising {
		for j, o := range rising {
			if got := s.Cmp(o); got != cmp.Compare(i, j) {
				t.Errorf("Cmp of %v and %v: %d", values(t, s), values(t, o), got)
			}
		}
	}
	if sorted.Of(math.MinInt).Cmp(sorted.Of(math.MaxInt)) != -1 || sorted.Of(1, 9).Cmp(sorted.Of(2)) != -1 || sorted.Of(10).Cmp(sorted.Of(9, 10)) != 1 {
		t.Error("Cmp of numbers")
	}
	if sorted.Of(2, 1, 2).Cmp(sorted.Of(1, 2)) != 0 {
		t.Error("Cmp of the same")
	}
}

func TestMap(t *testing.T) {
	s := sorted.Of(-2, -1, 0, 1, 2, 10)
	holds(t, "Map to squares", sorted.Map(s, func(x int) int { return x * x }), 0, 1, 4, 100)
	holds(t, "Map to itself", sorted.Map(s, func(x int) int { return x }), -2, -1, 0, 1, 2, 10)
	holds(t, "Map the other way round", sorted.Map(s, func(x int) int { return -x }), -10, -2, -1, 0, 1, 2)
	holds(t, "Map to one", sorted.Map(s, func(int) string { return "one" }), "one")
	holds(t, "Map to texts", sorted.Map(s, strconv.Itoa), "-1", "-2", "0", "1", "10", "2")
	holds(t, "Map of texts", sorted.Map(sorted.Of("a", "bcd", "efg"), func(t string) byte { return byte(len(t)) }), 1, 3)
	holds(t, "the set itself", s, -2, -1, 0, 1, 2, 10)
}

func TestMapAsksEachOnceInOrder(t *testing.T) {
	var asked []int
	sorted.Map(sorted.Of(3, 1, 2, 3), func(x int) int {
		asked = append(asked, x)
		return 0
	})
	if !slices.Equal(asked, []int{1, 2, 3}) {
		t.Error(asked)
	}
}

// Of a function that answers nothing there is nothing to make a set of.
func TestMapWithoutAnAnswer(t *testing.T) {
	holds(t, "Map with nil", sorted.Map[int, string](sorted.Of(1, 2), nil))
	holds(t, "Map of none with nil", sorted.Map[int, string](sorted.Of[int](), nil))
	holds(t, "Map that panics", sorted.Map(sorted.Of(1, 2, 3), func(x int) int {
		if x == 3 {
			panic("three")
		}
		return x
	}))
}
