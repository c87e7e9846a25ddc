package arena_test

import (
	"math"
	"slices"
	"strconv"
	"strings"
	"testing"

	"cordon/api"
	"cordon/arena"
)

// handle: that of the how manieth thing of a slot, as the chapter reckons it.
func handle(number, slot int) arena.Handle { return arena.Handle(number*1024 + slot) }

// puts: a thing may be put, and lies under this handle.
func puts[T any](t *testing.T, a *arena.Arena[T], x T, want arena.Handle) {
	t.Helper()
	if h, e := a.Put(x); h != want || e != api.OK {
		t.Errorf("Put: %d, %d, not %d", h, int(e), want)
	}
}

// isFull: nothing can be put, and nothing is changed by it.
func isFull(t *testing.T, a *arena.Arena[string]) {
	t.Helper()
	before := told(a)
	if h, e := a.Put("too many"); h != 0 || e != api.ErrFull {
		t.Errorf("Put where no slot is free: %d, %d", h, int(e))
	}
	if now := told(a); now != before {
		t.Errorf("beside ErrFull %q became %q", before, now)
	}
}

// filled: an arena of a size, in whose first slots things were put.
func filled(t *testing.T, size int, things ...string) *arena.Arena[string] {
	t.Helper()
	a := arena.New[string](size)
	for i, x := range things {
		puts(t, a, x, handle(1, i))
	}
	return a
}

// drops: things that are there may be dropped.
func drops[T any](t *testing.T, a *arena.Arena[T], hs ...arena.Handle) {
	t.Helper()
	for _, h := range hs {
		if !a.Drop(h) {
			t.Errorf("Drop(%d): it wasn't there", h)
		}
	}
}

// told: how the tests write all of an arena's things, with their handles.
func told(a *arena.Arena[string]) string {
	var l []string
	for h, x := range a.All() {
		l = append(l, strconv.Itoa(int(h))+" "+x)
	}
	return strings.Join(l, ", ")
}

// holds: an arena's things, all of them, by each way of asking.
func holds(t *testing.T, a *arena.Arena[string], want string) {
	t.Helper()
	if got := told(a); got != want {
		t.Errorf("All: %q, not %q", got, want)
	}
	n := 0
	for h, x := range a.All() {
		n++
		if y, ok := a.Get(h); !ok || y != x {
			t.Errorf("Get(%d): %q, %t, not %q", h, y, ok, x)
		}
	}
	if a.Len() != n {
		t.Errorf("Len: %d, not %d", a.Len(), n)
	}
}

// tellsNothing: none of the handles is one, and an arena is as it was behind each way of using them.
func tellsNothing(t *testing.T, a *arena.Arena[string], hs ...arena.Handle) {
	t.Helper()
	before := told(a)
	for _, h := range hs {
		if x, ok := a.Get(h); x != "" || ok {
			t.Errorf("Get(%d): %q, %t", h, x, ok)
		}
		if a.Set(h, "set") {
			t.Errorf("Set(%d): true", h)
		}
		if a.Drop(h) {
			t.Errorf("Drop(%d): true", h)
		}
		if now := told(a); now != before {
			t.Fatalf("by %d %q became %q", h, before, now)
		}
	}
}

// P15.1: the sizes that there are, and those that there aren't.
func TestNew(t *testing.T) {
	for _, size := range []int{1, 2, 3, 1023, 1024, api.MaxSlots} {
		a := arena.New[string](size)
		if a == nil {
			t.Errorf("none of %d slots", size)
			continue
		}
		holds(t, a, "")
		for i := range size {
			puts(t, a, "x", handle(1, i))
		}
		isFull(t, a)
		if a.Len() != size {
			t.Errorf("Len of %d: %d", size, a.Len())
		}
	}
	for _, size := range []int{0, -1, 1025, api.MaxSlots + 1, 1 << 31, math.MinInt, math.MaxInt} {
		if arena.New[string](size) != nil {
			t.Errorf("an arena of %d slots", size)
		}
	}
}

// P15.1, example 1: one slot, and the things that lie in it one behind the other.
func TestOneSlot(t *testing.T) {
	a := arena.New[string](1)
	for number := 1; number < 5; number++ {
		h := arena.Handle(1024 * number)
		tellsNothing(t, a, h)
		puts(t, a, "a", h)
		isFull(t, a)
		holds(t, a, strconv.Itoa(1024*number)+" a")
		drops(t, a, h)
		tellsNothing(t, a, h, 1024)
		holds(t, a, "")
	}
}

// P15.1: Put takes the first slot that is free, wherever that is.
func TestPutTakesTheFirst(t *testing.T) {
	for _, c := range []struct {
		what    string
		dropped []int
		puts    []arena.Handle
	}{
		{"none was free", nil, nil},
		{"the first", []int{0}, []arena.Handle{2048}},
		{"one between", []int{2}, []arena.Handle{2050}},
		{"the last", []int{4}, []arena.Handle{2052}},
		{"several, whichever went first", []int{3, 0, 4, 1}, []arena.Handle{2048, 2049, 2051, 2052}},
		{"all, from the last on", []int{4, 3, 2, 1, 0}, []arena.Handle{2048, 2049, 2050, 2051, 2052}},
	} {
		t.Run(c.what, func(t *testing.T) {
			a := filled(t, 5, "a", "b", "c", "d", "e")
			isFull(t, a)
			for _, slot := range c.dropped {
				drops(t, a, handle(1, slot))
			}
			for _, h := range c.puts {
				puts(t, a, "x", h)
			}
			isFull(t, a)
			if a.Len() != 5 {
				t.Error(a.Len())
			}
		})
	}
	a := filled(t, 5, "a", "b", "c")
	drops(t, a, handle(1, 1))
	puts(t, a, "x", handle(2, 1))
	puts(t, a, "d", handle(1, 3)) // nothing lay there yet
	drops(t, a, handle(2, 1), handle(1, 3))
	puts(t, a, "y", handle(3, 1))
	puts(t, a, "z", handle(2, 3))
	puts(t, a, "e", handle(1, 4))
	holds(t, a, "1024 a, 3073 y, 1026 c, 2051 z, 1028 e")
}

// P15.1, P15.2: handles that tell nothing, of every kind.
func TestWrongHandles(t *testing.T) {
	wrong := []arena.Handle{
		0, 1, 2, 3, 1023, // the number 0
		1027, 1024 + 1023, // slots that aren't there, or in which nothing ever was
		2048, 2050, 3072, // numbers still to come
		1025, 3073, // what lay in a slot where another thing lies now, and what will lie there
		-1, -1024, -1023, -1025, -2047, -2048, -3072, math.MinInt, math.MinInt + 1, math.MaxInt, math.MaxInt - 1023, math.MaxInt - 1022, math.MaxInt - 1021,
		1<<32 + 1024, 1<<32 + 2049, 1<<42 + 1024, -1<<32 + 1024, -1 << 32, -1<<32 - 1022,
	}
	a := filled(t, 3, "a", "b", "c")
	drops(t, a, 1025)
	puts(t, a, "x", 2049)
	tellsNothing(t, a, wrong...)
	holds(t, a, "1024 a, 2049 x, 1026 c")
	drops(t, a, 1024, 2049, 1026)
	tellsNothing(t, a, append(wrong, 1024, 2049, 1026)...)
	puts(t, a, "y", 2048)
	holds(t, a, "2048 y")
	tellsNothing(t, arena.New[string](3), append(wrong, 1024, 2049, 1026)...)
	tellsNothing(t, filled(t, api.MaxSlots), append(wrong, 1024, 2049, 1026)...)
}

// P15.1, P15.2: Set puts another thing in the place of one, under its handle.
func TestSet(t *testing.T) {
	a := filled(t, 3, "a", "b", "c")
	for _, x := range []string{"x", "y", "", "z"} {
		if !a.Set(1025, x) {
			t.Errorf("Set of %q: false", x)
		}
		holds(t, a, "1024 a, 1025 "+x+", 1026 c")
	}
	isFull(t, a)
	if !a.Set(1026, "w") || !a.Set(1024, "v") {
		t.Error("false")
	}
	holds(t, a, "1024 v, 1025 z, 1026 w")
	drops(t, a, 1025)
	tellsNothing(t, a, 1025)
	puts(t, a, "u", 2049)
	tellsNothing(t, a, 1025)
	if !a.Set(2049, "s") {
		t.Error("false")
	}
	holds(t, a, "1024 v, 2049 s, 1026 w")
}

// P15.1: what is dropped is gone, once.
func TestDrop(t *testing.T) {
	a := filled(t, 4, "a", "b", "c")
	drops(t, a, 1025)
	holds(t, a, "1024 a, 1026 c")
	tellsNothing(t, a, 1025)
	drops(t, a, 1026)
	tellsNothing(t, a, 1025, 1026)
	drops(t, a, 1024)
	tellsNothing(t, a, 1024, 1025, 1026)
	holds(t, a, "")
	puts(t, a, "x", 2048)
	tellsNothing(t, a, 1024)
	drops(t, a, 2048)
	tellsNothing(t, a, 1024, 2048)
}

// P15.1: how many there are.
func TestLen(t *testing.T) {
	a := arena.New[string](3)
	counts := func(want int) {
		t.Helper()
		if n := a.Len(); n != want {
			t.Errorf("Len: %d, not %d", n, want)
		}
	}
	counts(0)
	for i := range 3 {
		a.Put("x")
		counts(i + 1)
	}
	a.Put("x")
	counts(3)
	a.Set(1025, "")
	counts(3)
	a.Drop(1024)
	counts(2)
	a.Drop(1024)
	counts(2)
	a.Put("x")
	counts(3)
	drops(t, a, 1025, 2048, 1026)
	counts(0)
}

// P15.1: All tells what there is, by slots, as often as it is gone through.
func TestAll(t *testing.T) {
	for _, c := range []struct {
		what    string
		size    int
		things  string
		dropped []int
		want    string
	}{
		{"of none", 3, "", nil, ""},
		{"of one", 3, "a", nil, "1024 a"},
		{"of several", 5, "abc", nil, "1024 a, 1025 b, 1026 c"},
		{"of all", 3, "abc", nil, "1024 a, 1025 b, 1026 c"},
		{"the first slot is free", 3, "abc", []int{0}, "1025 b, 1026 c"},
		{"the last one is", 3, "abc", []int{2}, "1024 a, 1025 b"},
		{"gaps", 6, "abcdef", []int{1, 4, 3}, "1024 a, 1026 c, 1029 f"},
		{"of none any more", 2, "ab", []int{1, 0}, ""},
	} {
		t.Run(c.what, func(t *testing.T) {
			a := filled(t, c.size, strings.Split(c.things, "")...)
			for _, slot := range c.dropped {
				drops(t, a, handle(1, slot))
			}
			holds(t, a, c.want)
			holds(t, a, c.want)
		})
	}
	a := filled(t, 4, "a", "b", "c")
	drops(t, a, 1024)
	puts(t, a, "x", 2048) // of the highest handle, in the first slot
	holds(t, a, "2048 x, 1025 b, 1026 c")
}

// P15.1: to stop early is allowed, and the same iterator may be gone through once more.
func TestAllStopped(t *testing.T) {
	a := filled(t, 4, "a", "b", "c", "d")
	drops(t, a, 1025)
	all := a.All()
	for stop, want := range map[string][]arena.Handle{"a": {1024}, "c": {1024, 1026}, "d": {1024, 1026, 1027}, "none": {1024, 1026, 1027}} {
		for range 2 {
			var l []arena.Handle
			for h, x := range all {
				l = append(l, h)
				if x == stop {
					break
				}
			}
			if !slices.Equal(l, want) {
				t.Errorf("stopped at %q: %v, not %v", stop, l, want)
			}
		}
	}
	outer := 0
	for range all {
		for range all {
			outer++
		}
	}
	if outer != 9 {
		t.Errorf("within one another: %d", outer)
	}
}

// P15.1: what is changed while All is gone through is told as it lies when its slot has its turn.
func TestAllMeanwhile(t *testing.T) {
	a := func() *arena.Arena[string] { // of six slots, the second one free, in the last one nothing was ever
		a := filled(t, 6, "a", "b", "c", "d", "e")
		drops(t, a, 1025)
		return a
	}
	for _, c := range []struct {
		what, at    string
		does        func(a *arena.Arena[string])
		told, after string
	}{
		{"put in a slot ahead", "a", func(a *arena.Arena[string]) { a.Put("x") }, "1024 a, 2049 x, 1026 c, 1027 d, 1028 e", "1024 a, 2049 x, 1026 c, 1027 d, 1028 e"},
		{"put in a slot that was passed", "c", func(a *arena.Arena[string]) { a.Put("x") }, "1024 a, 1026 c, 1027 d, 1028 e", "1024 a, 2049 x, 1026 c, 1027 d, 1028 e"},
		{"put in a slot of nothing so far", "d", func(a *arena.Arena[string]) { a.Put("x"); a.Put("y") }, "1024 a, 1026 c, 1027 d, 1028 e, 1029 y", "1024 a, 2049 x, 1026 c, 1027 d, 1028 e, 1029 y"},
		{"put at the last one", "e", func(a *arena.Arena[string]) { a.Put("x"); a.Put("y") }, "1024 a, 1026 c, 1027 d, 1028 e, 1029 y", "1024 a, 2049 x, 1026 c, 1027 d, 1028 e, 1029 y"},
		{"set to come", "a", func(a *arena.Arena[string]) { a.Set(1027, "x") }, "1024 a, 1026 c, 1027 x, 1028 e", "1024 a, 1026 c, 1027 x, 1028 e"},
		{"set the one that is told", "c", func(a *arena.Arena[string]) { a.Set(1026, "x") }, "1024 a, 1026 c, 1027 d, 1028 e", "1024 a, 1026 x, 1027 d, 1028 e"},
		{"set one that was told", "d", func(a *arena.Arena[string]) { a.Set(1024, "x") }, "1024 a, 1026 c, 1027 d, 1028 e", "1024 x, 1026 c, 1027 d, 1028 e"},
		{"dropped one to come", "a", func(a *arena.Arena[string]) { a.Drop(1026) }, "1024 a, 1027 d, 1028 e", "1024 a, 1027 d, 1028 e"},
		{"dropped the last one", "a", func(a *arena.Arena[string]) { a.Drop(1028) }, "1024 a, 1026 c, 1027 d", "1024 a, 1026 c, 1027 d"},
		{"dropped all", "a", func(a *arena.Arena[string]) { drops(t, a, 1024, 1026, 1027, 1028) }, "1024 a", ""},
		{"dropped the one that is told", "c", func(a *arena.Arena[string]) { a.Drop(1026) }, "1024 a, 1026 c, 1027 d, 1028 e", "1024 a, 1027 d, 1028 e"},
		{"dropped one that was told", "e", func(a *arena.Arena[string]) { a.Drop(1026) }, "1024 a, 1026 c, 1027 d, 1028 e", "1024 a, 1027 d, 1028 e"},
		{"dropped, and put where it lay", "c", func(a *arena.Arena[string]) { a.Put("x"); a.Drop(1027); a.Put("y") }, "1024 a, 1026 c, 2051 y, 1028 e", "1024 a, 2049 x, 1026 c, 2051 y, 1028 e"},
		{"put where the told one lay", "c", func(a *arena.Arena[string]) { a.Put("x"); a.Drop(1026); a.Put("y") }, "1024 a, 1026 c, 1027 d, 1028 e", "1024 a, 2049 x, 2050 y, 1027 d, 1028 e"},
		{"gone through within", "c", func(a *arena.Arena[string]) { told(a) }, "1024 a, 1026 c, 1027 d, 1028 e", "1024 a, 1026 c, 1027 d, 1028 e"},
	} {
		t.Run(c.what, func(t *testing.T) {
			a := a()
			var l []string
			for h, x := range a.All() {
				l = append(l, strconv.Itoa(int(h))+" "+x)
				if x == c.at {
					c.does(a)
				}
			}
			if got := strings.Join(l, ", "); got != c.told {
				t.Errorf("%q, not %q", got, c.told)
			}
			holds(t, a, c.after)
		})
	}
}

// However much is put while All is gone through, it ends.
func TestAllEnds(t *testing.T) {
	a := filled(t, api.MaxSlots, "a")
	n := 0
	for range a.All() {
		a.Put("x")
		n++
	}
	if n != api.MaxSlots || a.Len() != api.MaxSlots {
		t.Errorf("%d told, %d there", n, a.Len())
	}
	n = 0
	for h := range a.All() {
		a.Drop(h)
		a.Put("y")
		n++
	}
	if n != api.MaxSlots || a.Len() != api.MaxSlots {
		t.Errorf("%d told, %d there", n, a.Len())
	}
}

// An iterator that was asked for ahead of changes tells what there is then.
func TestAllAskedAhead(t *testing.T) {
	a := arena.New[string](3)
	all := a.All()
	puts(t, a, "a", 1024)
	puts(t, a, "b", 1025)
	for range 2 {
		var l []string
		for _, x := range all {
			l = append(l, x)
		}
		if !slices.Equal(l, []string{"a", "b"}) {
			t.Errorf("%q", l)
		}
	}
}

// P15.1: a copy is apart, with what the function makes of each thing.
func TestCopy(t *testing.T) {
	same := func(x string) string { return x }
	other := func(x string) string { return x + x }
	for _, c := range []struct {
		what string
		twin func(string) string
		want string
	}{
		{"the same", same, "1024 a, 2049 x, 1027 d"},
		{"something else", other, "1024 aa, 2049 xx, 1027 dd"},
		{"nothing", func(string) string { return "" }, "1024 , 2049 , 1027 "},
	} {
		t.Run(c.what, func(t *testing.T) {
			a := filled(t, 6, "a", "b", "c", "d", "e")
			drops(t, a, 1025, 1026, 1028)
			puts(t, a, "x", 2049)
			b := a.Copy(c.twin)
			holds(t, b, c.want)
			tellsNothing(t, b, 1025, 1026, 1028, 2048, 3073)

			// The copy is changed.
			b.Set(1024, "m")
			drops(t, b, 2049)
			puts(t, b, "n", 3073)
			puts(t, b, "o", 2050)
			puts(t, b, "p", 2052)
			puts(t, b, "q", 1029)
			isFull(t, b)
			const now = "1024 m, 3073 n, 2050 o, 1027 "
			rest, _ := b.Get(1027)
			holds(t, b, now+rest+", 2052 p, 1029 q")
			holds(t, a, "1024 a, 2049 x, 1027 d")

			// The first one is changed.
			drops(t, a, 1024, 1027)
			puts(t, a, "z", 2048)
			a.Set(2049, "y")
			puts(t, a, "w", 2050)
			holds(t, a, "2048 z, 2049 y, 2050 w")
			holds(t, b, now+rest+", 2052 p, 1029 q")
		})
	}
}

// A copy of an empty arena, of a full one, of one in which things were, and of a copy.
func TestCopyOfAny(t *testing.T) {
	other := func(x string) string { return x + "'" }
	b := arena.New[string](2).Copy(other)
	holds(t, b, "")
	puts(t, b, "a", 1024)
	puts(t, b, "b", 1025)
	isFull(t, b)
	c := b.Copy(other).Copy(other)
	holds(t, c, "1024 a'', 1025 b''")
	isFull(t, c)
	drops(t, c, 1024, 1025)
	d := c.Copy(other)
	holds(t, d, "")
	tellsNothing(t, d, 1024, 1025)
	puts(t, d, "c", 2048)
	puts(t, c, "d", 2048) // each has handles of its own
	holds(t, d, "2048 c")
	holds(t, c, "2048 d")
	holds(t, b, "1024 a, 1025 b")
}

// The function is asked for each thing once, by slots, and for nothing else.
func TestCopyAsks(t *testing.T) {
	a := filled(t, 5, "a", "b", "", "d")
	drops(t, a, 1024)
	puts(t, a, "e", 2048)
	drops(t, a, 1025)
	var asked []string
	a.Copy(func(x string) string { asked = append(asked, x); return x })
	if !slices.Equal(asked, []string{"e", "", "d"}) {
		t.Errorf("%q", asked)
	}
}

// What the function does to the arena that is copied isn't in the copy.
func TestCopyMeanwhile(t *testing.T) {
	a := filled(t, 4, "a", "b", "c")
	drops(t, a, 1024)
	b := a.Copy(func(x string) string {
		a.Drop(1026)
		a.Set(1025, "set")
		a.Put("put")
		return x
	})
	holds(t, b, "1025 b, 1026 c")
	holds(t, a, "2048 put, 1025 set, 2050 put") // c went at the first call, and the second one had the slot of c to put in
}

// A function that isn't there, or that panics, makes no copy, and changes nothing.
func TestCopyWithoutFunction(t *testing.T) {
	a := filled(t, 3, "a", "b")
	for what, twin := range map[string]func(string) string{
		"no function":    nil,
		"a panic":        func(string) string { panic("twin") },
		"a panic of nil": func(string) string { panic(error(nil)) },
		"one later": func(x string) string {
			if x == "b" {
				panic("late")
			}
			return x + x
		},
	} {
		if b := a.Copy(twin); b != nil {
			t.Errorf("%s: %q", what, told(b))
		}
		holds(t, a, "1024 a, 1025 b")
	}
	b := arena.New[string](1).Copy(nil) // it isn't asked for anything
	puts(t, b, "a", 1024)
	isFull(t, b)
}

// P15.1: each way on a nil arena.
func TestNil(t *testing.T) {
	var a *arena.Arena[string]
	if h, e := a.Put("a"); h != 0 || e != api.ErrArg {
		t.Errorf("Put: %d, %d", h, int(e))
	}
	tellsNothing(t, a, 0, 1, 1024, 2048, -1, math.MinInt, math.MaxInt)
	holds(t, a, "")
	for range 2 {
		for h, x := range a.All() {
			t.Errorf("All: %d, %q", h, x)
		}
	}
	if a.Copy(func(x string) string { t.Error("asked"); return x }) != nil || a.Copy(nil) != nil {
		t.Error("a copy")
	}
}
