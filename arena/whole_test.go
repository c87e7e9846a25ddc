package arena_test

import (
	"math"
	"math/rand"
	"runtime"
	"slices"
	"strconv"
	"strings"
	"testing"
	"weak"

	"cordon/api"
	"cordon/arena"
)

// item is a thing in the model, a list in which all that were ever put stand in their order.
type item struct {
	h     arena.Handle
	slot  int
	thing string
	there bool
}

type model struct {
	size  int
	items []item
}

// lying: where in the list the thing is that lies in a slot; -1: none.
func (m model) lying(slot int) int {
	return slices.IndexFunc(m.items, func(i item) bool { return i.slot == slot && i.there })
}

// under: where in the list the thing of a handle is; -1: there is none.
func (m model) under(h arena.Handle) int {
	return slices.IndexFunc(m.items, func(i item) bool { return i.h == h && i.there })
}

// put: what the chapter says of Put, on the model.
func (m *model) put(x string) (arena.Handle, api.Errno) {
	for slot := range m.size {
		if m.lying(slot) >= 0 {
			continue
		}
		number := 1
		for _, i := range m.items {
			if i.slot == slot {
				number++
			}
		}
		m.items = append(m.items, item{handle(number, slot), slot, x, true})
		return handle(number, slot), api.OK
	}
	return 0, api.ErrFull
}

// set: what it says of Set.
func (m *model) set(h arena.Handle, x string) bool {
	i := m.under(h)
	if i >= 0 {
		m.items[i].thing = x
	}
	return i >= 0
}

// drop: what it says of Drop.
func (m *model) drop(h arena.Handle) bool {
	i := m.under(h)
	if i >= 0 {
		m.items[i].there = false
	}
	return i >= 0
}

// apart: the model of a copy.
func (m model) apart(twin func(string) string) model {
	m.items = slices.Clone(m.items)
	for i := range m.items {
		m.items[i].thing = twin(m.items[i].thing)
	}
	return m
}

// told: all things, as the tests write them.
func (m model) told() string {
	var l []string
	for slot := range m.size {
		if i := m.lying(slot); i >= 0 {
			l = append(l, strconv.Itoa(int(m.items[i].h))+" "+m.items[i].thing)
		}
	}
	return strings.Join(l, ", ")
}

// asModel: an arena tells all that the model does.
func asModel(t *testing.T, a *arena.Arena[string], m model, asked []arena.Handle) {
	t.Helper()
	want := m.told()
	if got := told(a); got != want {
		t.Errorf("All: %q, not %q", got, want)
	}
	n := 0
	for _, i := range m.items {
		if i.there {
			n++
		}
	}
	if a.Len() != n {
		t.Errorf("Len: %d, not %d", a.Len(), n)
	}
	for _, h := range asked {
		x, ok := a.Get(h)
		i := m.under(h)
		if ok != (i >= 0) || ok && x != m.items[i].thing || !ok && x != "" {
			t.Errorf("Get(%d) of %q: %q, %t", h, want, x, ok)
		}
	}
}

// deed is one thing that is done to an arena.
type deed struct {
	what string // put, set, drop
	h    arena.Handle
}

// does: the same to an arena and to the model.
func does(t *testing.T, a *arena.Arena[string], m *model, d deed, x string) {
	t.Helper()
	switch d.what {
	case "put":
		h, e := a.Put(x)
		if want, errno := m.put(x); h != want || e != errno {
			t.Errorf("Put: %d, %d, not %d, %d", h, int(e), want, int(errno))
		}
	case "set":
		if ok, want := a.Set(d.h, x), m.set(d.h, x); ok != want {
			t.Errorf("Set(%d): %t", d.h, ok)
		}
	case "drop":
		if ok, want := a.Drop(d.h), m.drop(d.h); ok != want {
			t.Errorf("Drop(%d): %t", d.h, ok)
		}
	}
}

// P15.1 and P15.2 once more, of all that may be done in up to six deeds, held against the chapter's words; each deed is done to a copy.
func TestAllShortLives(t *testing.T) {
	var asked []arena.Handle
	for number := -1; number < 5; number++ {
		for slot := range 4 {
			asked = append(asked, handle(number, slot))
		}
	}
	deeds := []deed{{"put", 0}, {"set", 1024}, {"set", 2048}, {"set", 2049}, {"drop", 1024}, {"drop", 1025}, {"drop", 2048}, {"drop", 3072}}
	same := func(x string) string { return x }
	var lives func(a *arena.Arena[string], m model, left int)
	lives = func(a *arena.Arena[string], m model, left int) {
		asModel(t, a, m, asked)
		if left == 0 || t.Failed() {
			return
		}
		for _, d := range deeds {
			b, n := a.Copy(same), m.apart(same)
			does(t, b, &n, d, strconv.Itoa(left))
			lives(b, n, left-1)
		}
		if got, want := told(a), m.told(); got != want { // what its copies did isn't its own
			t.Errorf("%q, not %q", got, want)
		}
	}
	lives(arena.New[string](1), model{size: 1}, 4)
	lives(arena.New[string](2), model{size: 2}, 6)
}

// And of long lives, in arenas of any size.
func TestLongLives(t *testing.T) {
	longer := func(x string) string { return x + "." }
	for seed := range int64(60) {
		r := rand.New(rand.NewSource(seed))
		size := []int{1, 2, 3, 7, 40, api.MaxSlots}[seed%6]
		a, m := arena.New[string](size), model{size: size}
		given := []arena.Handle{0, -1, math.MaxInt, 1024, 2047, 2048}
		for i := range 300 {
			d := deed{[]string{"put", "put", "set", "drop"}[r.Intn(4)], given[r.Intn(len(given))]}
			does(t, a, &m, d, strconv.Itoa(i))
			if len(m.items) > 0 {
				given = append(given, m.items[len(m.items)-1].h+arena.Handle(r.Intn(3)-1))
			}
			if r.Intn(20) == 0 {
				a, m = a.Copy(longer), m.apart(longer)
			}
			if r.Intn(8) == 0 || i == 299 {
				asModel(t, a, m, given)
			}
		}
	}
}

// P15.2: no handle is given twice, and one that went tells nothing, however often its slot was used.
func TestHandlesNeverComeAgain(t *testing.T) {
	const size = 3
	a := arena.New[int](size)
	given := map[arena.Handle]int{}
	for i := range 3000 {
		h, e := a.Put(i)
		if _, twice := given[h]; e != api.OK || twice {
			t.Fatalf("%d: %d, %d", i, h, int(e))
		}
		given[h] = i
		if a.Len() == size {
			var l []arena.Handle
			for h := range a.All() {
				l = append(l, h)
			}
			drops(t, a, l[i%size], l[(i+1)%size])
		}
	}
	there := 0
	for h, i := range given {
		x, ok := a.Get(h)
		if ok && x != i || !ok && x != 0 {
			t.Errorf("%d: %d, %t, where %d was put", h, x, ok, i)
		}
		if ok {
			there++
		}
	}
	if there != a.Len() {
		t.Errorf("%d of %d", there, a.Len())
	}
}

// P15.2: what is put, set or dropped somewhere changes no other thing, not even among all slots.
func TestThingsAreApart(t *testing.T) {
	a := arena.New[[4]int](api.MaxSlots)
	for i := range api.MaxSlots {
		puts(t, a, [4]int{i, 3: -i}, handle(1, i))
	}
	changed := map[arena.Handle]bool{}
	for _, slot := range []int{0, 1, 511, 512, 1022, 1023} {
		h := handle(1, slot)
		changed[h] = true
		a.Set(h, [4]int{-1})
		drops(t, a, h)
		puts(t, a, [4]int{-2}, handle(2, slot))
	}
	for i := range api.MaxSlots {
		h := handle(1, i)
		x, ok := a.Get(h)
		if changed[h] && (ok || x != [4]int{}) || !changed[h] && (!ok || x != [4]int{i, 3: -i}) {
			t.Errorf("%d: %v, %t", h, x, ok)
		}
	}
}

// lies: a thing of any type is put, told, set, copied and dropped.
func lies[T comparable](t *testing.T, first, second T) {
	t.Helper()
	var zero T
	a := arena.New[T](2)
	h, _ := a.Put(first)
	if x, ok := a.Get(h); !ok || x != first {
		t.Errorf("put: %v, %t", x, ok)
	}
	a.Put(zero)
	if !a.Set(h, second) || a.Len() != 2 {
		t.Error("not set")
	}
	asked := 0
	b := a.Copy(func(x T) T {
		asked++
		if asked == 1 {
			return first
		}
		return x
	})
	for at, want := range map[arena.Handle][2]T{1024: {second, first}, 1025: {zero, zero}} {
		x, inA := a.Get(at)
		y, inB := b.Get(at)
		if !inA || !inB || x != want[0] || y != want[1] {
			t.Errorf("%d: %v, %t and %v, %t", at, x, inA, y, inB)
		}
	}
	drops(t, a, 1025)
	if x, ok := a.Get(1025); ok || x != zero {
		t.Errorf("gone: %v, %t", x, ok)
	}
	for h, x := range a.All() {
		if h != 1024 || x != second {
			t.Errorf("All: %d, %v", h, x)
		}
	}
	if a.Len() != 1 || b.Len() != 2 {
		t.Error(a.Len(), b.Len())
	}
}

// Things of several types.
func TestTypes(t *testing.T) {
	lies(t, 1, -1)
	lies(t, "a", "")
	lies(t, true, false)
	lies(t, 0.5, math.Inf(1))
	lies(t, [3]string{"a"}, [3]string{1: "b"})
	lies(t, struct{}{}, struct{}{})
	lies(t, struct{ a, b int }{1, 2}, struct{ a, b int }{2, 1})
	lies(t, new(int), new(int))
	lies(t, any("a"), any(nil))
	lies(t, error(api.ErrGone), error(api.ErrFull))
	lies(t, handle(1, 1), handle(2, 2))
	lies(t, arena.New[int](1), nil)
	lies(t, make(chan int), nil)
}

// Things that can't be held against one another.
func TestListsAndFunctions(t *testing.T) {
	lists := arena.New[[]int](3)
	puts(t, lists, []int{1, 2}, 1024)
	puts(t, lists, nil, 1025)
	apart := lists.Copy(slices.Clone)
	if x, _ := lists.Get(1024); !slices.Equal(x, []int{1, 2}) {
		t.Error(x)
	} else {
		x[0] = 9
	}
	if x, ok := apart.Get(1024); !ok || !slices.Equal(x, []int{1, 2}) {
		t.Error(x, ok)
	}
	if x, ok := lists.Get(1025); !ok || x != nil {
		t.Error(x, ok)
	}
	drops(t, lists, 1024)
	if x, ok := lists.Get(1024); ok || x != nil {
		t.Error(x, ok)
	}

	functions := arena.New[func() int](1)
	puts(t, functions, func() int { return 3 }, 1024)
	if f, ok := functions.Get(1024); !ok || f() != 3 {
		t.Error("no function")
	}
	drops(t, functions, 1024)
	if f, ok := functions.Get(1024); ok || f != nil {
		t.Error("a function")
	}
}

// big is a thing that the machine can tell of whether somebody keeps it.
type big [1 << 12]int

// What was dropped, and what a Set put another thing in the place of, isn't kept; nor is the other in a copy.
func TestLetsGo(t *testing.T) {
	a := arena.New[*big](4)
	var gone [3]weak.Pointer[big]
	for i := range gone {
		x := new(big)
		gone[i] = weak.Make(x)
		puts(t, a, x, handle(1, i))
	}
	b := a.Copy(func(x *big) *big { return new(*x) })
	drops(t, a, 1024)
	a.Set(1025, nil)
	runtime.GC()
	if gone[0].Value() != nil || gone[1].Value() != nil {
		t.Error("what went is kept")
	}
	if x, ok := a.Get(1026); !ok || x == nil || x != gone[2].Value() {
		t.Error("what lies there isn't kept")
	}
	runtime.KeepAlive(a)
	runtime.KeepAlive(b)
}

// R1: an arena that nobody made, but that is there, does no harm.
func TestNobodysArena(t *testing.T) {
	var a arena.Arena[string]
	isFull(t, &a)
	tellsNothing(t, &a, 0, 1024, math.MinInt, math.MaxInt)
	holds(t, a.Copy(strings.Clone), "")
}
