package dom_test

import (
	"math"
	"slices"
	"strconv"
	"strings"
	"testing"

	"cordon/api"
	"cordon/arena"
	"cordon/dom"
)

// handle: that of the how manieth node of a slot, as chapter 15 reckons it.
func handle(number, slot int) arena.Handle { return arena.Handle(number*1024 + slot) }

// there: the handles of all nodes that a tree has, by slots; of each slot the first numbers are asked for.
func there(tr *dom.Tree) []arena.Handle {
	var l []arena.Handle
	for slot := range api.MaxNodes + 2 {
		for number := -1; number < 7; number++ {
			if _, e := tr.Node(handle(number, slot)); e == api.OK {
				l = append(l, handle(number, slot))
			}
		}
	}
	return l
}

// written: how the tests write what a node has.
func written(n dom.Node) string {
	var l []string
	for _, a := range n.Attrs {
		l = append(l, a[0]+"="+a[1])
	}
	for _, k := range n.Kids {
		l = append(l, strconv.Itoa(int(k)))
	}
	return n.Tag + "^" + strconv.Itoa(int(n.Parent)) + "{" + n.Text + "}[" + strings.Join(l, " ") + "]"
}

// told: how the tests write all that a tree has, node by node, with their handles.
func told(tr *dom.Tree) string {
	var l []string
	for _, h := range there(tr) {
		n, _ := tr.Node(h)
		l = append(l, strconv.Itoa(int(h))+" "+written(n))
	}
	return strings.Join(l, ", ")
}

// branch: how the tests write a node and what is within it, by tags, as Node tells it.
func branch(tr *dom.Tree, h arena.Handle) string {
	n, _ := tr.Node(h)
	if len(n.Kids) == 0 {
		return n.Tag
	}
	var l []string
	for _, k := range n.Kids {
		l = append(l, branch(tr, k))
	}
	return n.Tag + "(" + strings.Join(l, " ") + ")"
}

// shape: all branches of a tree, first the root's, then those of the loose nodes, by slots.
func shape(tr *dom.Tree) string {
	var l []string
	for _, h := range there(tr) {
		if n, _ := tr.Node(h); n.Parent == 0 {
			l = append(l, branch(tr, h))
		}
	}
	return strings.Join(l, " ")
}

// holds: a tree has this shape, and is sound.
func holds(t *testing.T, tr *dom.Tree, want string) {
	t.Helper()
	sound(t, tr)
	if got := shape(tr); got != want {
		t.Errorf("%q, not %q", got, want)
	}
}

// sound: P17.5 and the bounds hold of a tree, and it tells of its nodes in each way the same.
func sound(t *testing.T, tr *dom.Tree) {
	t.Helper()
	soundOf(t, tr, there(tr))
}

// soundOf: the same, of a tree whose nodes are all known.
func soundOf(t *testing.T, tr *dom.Tree, all []arena.Handle) {
	t.Helper()
	if tr.Len() != len(all) || len(all) > api.MaxNodes {
		t.Fatalf("Len: %d, not %d", tr.Len(), len(all))
	}
	if n, e := tr.Node(tr.Root()); n.Tag != "page" || n.Parent != 0 || e != api.OK {
		t.Fatalf("the root: %q, %d", written(n), int(e))
	}
	kidOf := map[arena.Handle][]arena.Handle{}
	for _, h := range all {
		n, _ := tr.Node(h)
		for _, k := range n.Kids {
			kidOf[k] = append(kidOf[k], h)
		}
		soundAttrs(t, n)
	}
	for _, h := range all {
		n, _ := tr.Node(h)
		if n.Parent == 0 && len(kidOf[h]) != 0 || n.Parent != 0 && !slices.Equal(kidOf[h], []arena.Handle{n.Parent}) {
			t.Fatalf("%d: the parent %d, a kid of %v", h, n.Parent, kidOf[h])
		}
		soundWalk(t, tr, h)
		delete(kidOf, h)
	}
	if len(kidOf) > 0 {
		t.Fatalf("kids that aren't there: %v", kidOf)
	}
}

// soundAttrs: a node's attributes rise by names, and there aren't too many.
func soundAttrs(t *testing.T, n dom.Node) {
	t.Helper()
	rising := slices.IsSortedFunc(n.Attrs, func(a, b [2]string) int { return strings.Compare(a[0], b[0]) })
	for i, a := range n.Attrs {
		if a[0] == "" || a[1] == "" || i > 0 && a[0] == n.Attrs[i-1][0] {
			t.Fatalf("the attribute %q", a)
		}
	}
	if !rising || len(n.Attrs) > api.MaxAttrs {
		t.Fatalf("attributes: %q", n.Attrs)
	}
}

// soundWalk: a node is MaxNest deep at most, and its Walk tells it and, kid by kid, what theirs tell.
func soundWalk(t *testing.T, tr *dom.Tree, h arena.Handle) {
	t.Helper()
	depth := 0
	for n, _ := tr.Node(h); n.Parent != 0; n, _ = tr.Node(n.Parent) {
		if depth++; depth > api.MaxNest {
			t.Fatalf("%d: too deep, or within itself", h)
		}
	}
	n, _ := tr.Node(h)
	want := []visit{{0, h}}
	for _, k := range n.Kids {
		for _, v := range walked(tr, k) {
			want = append(want, visit{v.deeper + 1, v.h})
		}
	}
	if got := walked(tr, h); !slices.Equal(got, want) {
		t.Fatalf("Walk(%d): %v, not %v", h, got, want)
	}
}

// visit is what a Walk tells of a node.
type visit struct {
	deeper int
	h      arena.Handle
}

// walked: all that a Walk tells.
func walked(tr *dom.Tree, h arena.Handle) []visit {
	var l []visit
	for deeper, below := range tr.Walk(h) {
		l = append(l, visit{deeper, below})
	}
	return l
}

// made: a node may be made, and has this handle.
func made(t *testing.T, tr *dom.Tree, tag string, want arena.Handle) arena.Handle {
	t.Helper()
	h, e := tr.Make(tag)
	if h != want || e != api.OK {
		t.Errorf("Make(%.80q): %d, %d, not %d", tag, h, int(e), want)
	}
	return h
}

// isOK: a deed isn't refused.
func isOK(t *testing.T, e api.Errno) {
	t.Helper()
	if e != api.OK {
		t.Errorf("refused: %d", int(e))
	}
}

// refused: a deed is refused with an error, and the tree is as it was.
func refused(t *testing.T, tr *dom.Tree, want api.Errno, what string, deed func() api.Errno) {
	t.Helper()
	before := told(tr)
	if e := deed(); e != want {
		t.Errorf("%s: %d, not %d", what, int(e), int(want))
	}
	if now := told(tr); now != before {
		t.Errorf("%s: %.300q became %.300q", what, before, now)
	}
}

// cantMake: a tag is refused, and nothing is changed.
func cantMake(t *testing.T, tr *dom.Tree, tag string, want api.Errno) {
	t.Helper()
	refused(t, tr, want, "Make", func() api.Errno {
		h, e := tr.Make(tag)
		if h != 0 {
			t.Errorf("beside an error: %d", h)
		}
		return e
	})
}

// cantDrop: a Drop is refused, and nothing is changed.
func cantDrop(t *testing.T, tr *dom.Tree, h arena.Handle, want api.Errno) {
	t.Helper()
	refused(t, tr, want, "Drop", func() api.Errno {
		many, e := tr.Drop(h)
		if many != 0 {
			t.Errorf("beside an error: %d", many)
		}
		return e
	})
}

// drops: so many nodes go.
func drops(t *testing.T, tr *dom.Tree, h arena.Handle, want int) {
	t.Helper()
	if many, e := tr.Drop(h); many != want || e != api.OK {
		t.Errorf("Drop(%d): %d, %d, not %d", h, many, int(e), want)
	}
}

// grown: a tree of a shape, and its nodes by tags; they were made in the order in which the shape names them.
func grown(t *testing.T, of string) (*dom.Tree, map[string]arena.Handle) {
	t.Helper()
	tr := dom.New()
	nodes := map[string]arena.Handle{"page": tr.Root(), "none": 0, "gone": handle(1, 63)}
	var open []arena.Handle
	var last arena.Handle
	for _, piece := range strings.Fields(strings.NewReplacer("(", " ( ", ")", " ) ").Replace(of)) {
		switch piece {
		case "page":
			last = tr.Root()
		case "(":
			open = append(open, last)
		case ")":
			open = open[:len(open)-1]
		default:
			last = made(t, tr, piece, handle(1, len(nodes)-2))
			nodes[piece] = last
			if len(open) > 0 {
				n, _ := tr.Node(open[len(open)-1])
				isOK(t, tr.Put(open[len(open)-1], len(n.Kids), last))
			}
		}
	}
	holds(t, tr, of)
	return tr, nodes
}

// chain: the shape of so many nodes, each the kid of the one ahead, with tags of a beginning and a number.
func chain(tag string, many int) string {
	var l []string
	for i := range many {
		l = append(l, tag+strconv.Itoa(i))
	}
	return strings.Join(l, "(") + strings.Repeat(")", many-1)
}

// P17.1: New, Root

func TestNew(t *testing.T) {
	tr := dom.New()
	holds(t, tr, "page")
	if tr.Root() != 1024 {
		t.Errorf("Root: %d", tr.Root())
	}
	if got := told(tr); got != "1024 page^0{}[]" {
		t.Error(got)
	}
	other := dom.New()
	made(t, other, "a", 1025)
	isOK(t, other.SetText(other.Root(), "x"))
	if got := told(tr); got != "1024 page^0{}[]" {
		t.Errorf("another tree changed it: %q", got)
	}
	refused(t, tr, api.ErrArg, "Cut", func() api.Errno { return tr.Cut(tr.Root()) })
	cantDrop(t, tr, tr.Root(), api.ErrArg)
}

// P17.1: Make

// tokenBytes are the bytes of which tokens are, as chapter 1 names them.
const tokenBytes = "abcdefghijklmnopqrstuvwxyzABCDEFGHIJKLMNOPQRSTUVWXYZ0123456789!#$%&'*+-.^_`|~"

// goodAndBad: texts that may be tags and names, and texts that may not.
func goodAndBad() (good, bad []string) {
	for b := range 256 {
		text := string([]byte{byte(b)})
		if strings.Contains(tokenBytes, text) {
			good = append(good, text, text+"a", "a"+text)
		} else {
			bad = append(bad, text, text+"a", "a"+text, "a"+text+"b")
		}
	}
	good = append(good, "page", "script", "-", tokenBytes[:63], strings.Repeat("a", 62), strings.Repeat("~", 63))
	bad = append(bad, "", "a b", "é", "\u3000", tokenBytes[:64], strings.Repeat("a", 64), strings.Repeat("a", 65), strings.Repeat("a", 4096), strings.Repeat(" ", 63), strings.Repeat("a", 62)+" ", strings.Repeat("a", 1<<20))
	return good, bad
}

func TestMake(t *testing.T) {
	good, bad := goodAndBad()
	for _, tag := range good {
		tr := dom.New()
		h := made(t, tr, tag, 1025)
		if n, e := tr.Node(h); written(n) != tag+"^0{}[]" || e != api.OK {
			t.Errorf("%q: %q, %d", tag, written(n), int(e))
		}
		holds(t, tr, "page "+tag)
	}
	tr := dom.New()
	for _, tag := range bad {
		cantMake(t, tr, tag, api.ErrForm)
	}
	holds(t, tr, "page")
	made(t, tr, "a", 1025) // what was refused used up no handle
}

// As many nodes as there may be, loose or not, and one more; a full tree behind a Drop.
func TestMakeFull(t *testing.T) {
	if api.MaxNodes != 64 {
		t.Fatal("the limit isn't that of the document")
	}
	for _, slot := range []int{1, 2, 31, 62, 63} {
		tr := dom.New()
		for i := 1; i < 64; i++ {
			h := made(t, tr, "a", handle(1, i))
			if i%2 == 1 {
				isOK(t, tr.Put(tr.Root(), 0, h))
			}
		}
		sound(t, tr)
		cantMake(t, tr, "b", api.ErrFull)
		cantMake(t, tr, "", api.ErrForm) // ahead of ErrFull
		drops(t, tr, handle(1, slot), 1)
		cantMake(t, tr, "b c", api.ErrForm)
		made(t, tr, "b", handle(2, slot))
		cantMake(t, tr, "b", api.ErrFull)
		if n, e := tr.Node(handle(2, slot)); written(n) != "b^0{}[]" || e != api.OK {
			t.Errorf("%q, %d", written(n), int(e))
		}
		sound(t, tr)
	}
}

// Nothing of what was there is left where another node is made.
func TestMakeAfresh(t *testing.T) {
	tr, n := grown(t, "page(a(b c))")
	isOK(t, tr.SetText(n["a"], "x"))
	isOK(t, tr.SetAttr(n["a"], "id", "y"))
	drops(t, tr, n["a"], 3)
	for slot := 1; slot < 4; slot++ {
		h := made(t, tr, "d", handle(2, slot))
		if got, e := tr.Node(h); written(got) != "d^0{}[]" || e != api.OK {
			t.Errorf("%q, %d", written(got), int(e))
		}
	}
}

// P17.1: Node

func TestNode(t *testing.T) {
	tr, n := grown(t, "page(a b(c d e)) l(m)")
	isOK(t, tr.SetText(n["b"], "some text"))
	isOK(t, tr.SetAttr(n["b"], "y", "2"))
	isOK(t, tr.SetAttr(n["b"], "x", "1"))
	isOK(t, tr.SetText(n["page"], "all"))
	for tag, want := range map[string]string{
		"page": "page^0{all}[1025 1026]",
		"a":    "a^1024{}[]",
		"b":    "b^1024{some text}[x=1 y=2 1027 1028 1029]",
		"c":    "c^1026{}[]",
		"e":    "e^1026{}[]",
		"l":    "l^0{}[1031]",
		"m":    "m^1030{}[]",
	} {
		for range 2 {
			if got, e := tr.Node(n[tag]); written(got) != want || e != api.OK {
				t.Errorf("%s: %q, %d", tag, written(got), int(e))
			}
		}
	}
}

// P17.2: Put

func TestPut(t *testing.T) {
	for _, c := range []struct {
		what, of, parent string
		at               int
		kid, want        string
	}{
		{"a loose node as the only kid", "page a", "page", 0, "a", "page(a)"},
		{"ahead of a kid", "page(a) b", "page", 0, "b", "page(b a)"},
		{"behind a kid", "page(a) b", "page", 1, "b", "page(a b)"},
		{"at 0 of many", "page(a b c) d", "page", 0, "d", "page(d a b c)"},
		{"in the middle", "page(a b c) d", "page", 1, "d", "page(a d b c)"},
		{"in the middle, further", "page(a b c) d", "page", 2, "d", "page(a b d c)"},
		{"at the number of kids", "page(a b c) d", "page", 3, "d", "page(a b c d)"},
		{"a loose branch", "page(a) b(c(d) e)", "page", 1, "b", "page(a b(c(d) e))"},
		{"a loose branch, deeper", "page(a) b(c(d) e)", "a", 0, "b", "page(a(b(c(d) e)))"},
		{"into a loose node", "page(a) b", "b", 0, "a", "page b(a)"},
		{"a loose one into another", "page a b", "b", 0, "a", "page b(a)"},
		{"deeper into a loose one", "page a(b) c", "b", 0, "c", "page a(b(c))"},
		{"from one parent to another", "page(a(c d e) b)", "b", 0, "d", "page(a(c e) b(d))"},
		{"the first, to another", "page(a(c d) b)", "b", 0, "c", "page(a(d) b(c))"},
		{"the last, to another", "page(a(c d) b(e))", "b", 1, "d", "page(a(c) b(e d))"},
		{"the only one, up", "page(a(b))", "page", 0, "b", "page(b a)"},
		{"up, behind what it was in", "page(a(b))", "page", 1, "b", "page(a b)"},
		{"a branch, up by two", "page(a(b(c(d))))", "page", 1, "c", "page(a(b) c(d))"},
		{"down, into what stood beside it", "page(a b)", "a", 0, "b", "page(a(b))"},
		{"into what stood behind it", "page(a b)", "b", 0, "a", "page(b(a))"},
		{"to its grandparent", "page(a(b(c) d))", "a", 2, "c", "page(a(b d c))"},
		{"out of a loose branch", "page a(b(c))", "page", 0, "b", "page(b(c)) a"},
		{"from a loose branch into itself, up", "page a(b(c))", "a", 0, "c", "page a(c b)"},

		// Within its own parent: the place counts as if it had been cut first.
		{"the only kid, again", "page(a)", "page", 0, "a", "page(a)"},
		{"the first, at 0", "page(a b c)", "page", 0, "a", "page(a b c)"},
		{"the first, at 1", "page(a b c)", "page", 1, "a", "page(b a c)"},
		{"the first, at the last place", "page(a b c)", "page", 2, "a", "page(b c a)"},
		{"the middle, at 0", "page(a b c)", "page", 0, "b", "page(b a c)"},
		{"the middle, at 1", "page(a b c)", "page", 1, "b", "page(a b c)"},
		{"the middle, at the last place", "page(a b c)", "page", 2, "b", "page(a c b)"},
		{"the last, at 0", "page(a b c)", "page", 0, "c", "page(c a b)"},
		{"the last, at 1", "page(a b c)", "page", 1, "c", "page(a c b)"},
		{"the last, at the last place", "page(a b c)", "page", 2, "c", "page(a b c)"},
		{"in a loose node", "page l(a b c)", "l", 2, "a", "page l(b c a)"},
	} {
		t.Run(c.what, func(t *testing.T) {
			tr, n := grown(t, c.of)
			if e := tr.Put(n[c.parent], c.at, n[c.kid]); e != api.OK {
				t.Errorf("%d", int(e))
			}
			holds(t, tr, c.want)
		})
	}
}

// One that is put has what it had.
func TestPutKeepsAllElse(t *testing.T) {
	tr, n := grown(t, "page(a(b) c)")
	for _, h := range []arena.Handle{n["page"], n["a"], n["b"], n["c"]} {
		isOK(t, tr.SetText(h, "text "+strconv.Itoa(int(h))))
		isOK(t, tr.SetAttr(h, "id", strconv.Itoa(int(h))))
	}
	isOK(t, tr.Put(n["c"], 0, n["a"]))
	const want = "1024 page^0{text 1024}[id=1024 1027], 1025 a^1027{text 1025}[id=1025 1026], 1026 b^1025{text 1026}[id=1026], 1027 c^1024{text 1027}[id=1027 1025]"
	if got := told(tr); got != want {
		t.Errorf("%q, not %q", got, want)
	}
}

// Each error of Put, and which one comes first where several hold.
func TestPutRefused(t *testing.T) {
	deep := "page(" + chain("a", 16) + ") " + chain("b", 17) + " c"
	for _, c := range []struct {
		what, of, parent string
		at               int
		kid              string
		want             api.Errno
	}{
		{"no parent", "page a", "none", 0, "a", api.ErrGone},
		{"no kid", "page a", "a", 0, "none", api.ErrGone},
		{"neither", "page a", "gone", 0, "none", api.ErrGone},

		{"the root into itself", "page(a)", "page", 0, "page", api.ErrArg},
		{"the root into what is within it", "page(a)", "a", 0, "page", api.ErrArg},
		{"the root into a loose node", "page l", "l", 0, "page", api.ErrArg},

		{"into itself", "page(a)", "a", 0, "a", api.ErrLoop},
		{"a loose one into itself", "page l", "l", 0, "l", api.ErrLoop},
		{"into its kid", "page(a(b))", "b", 0, "a", api.ErrLoop},
		{"into what is deep within it", "page(a(b(c(d) e)))", "d", 0, "a", api.ErrLoop},
		{"into its last kid's kid", "page(a(b c(d e)))", "e", 0, "a", api.ErrLoop},
		{"a loose one into its kid", "page l(m)", "m", 0, "l", api.ErrLoop},

		{"below 0", "page(a) b", "page", -1, "b", api.ErrRange},
		{"far below 0", "page(a) b", "page", math.MinInt, "b", api.ErrRange},
		{"beyond none", "page a", "page", 1, "a", api.ErrRange},
		{"beyond one", "page(a) b", "page", 2, "b", api.ErrRange},
		{"beyond many", "page(a b c) d", "page", 4, "d", api.ErrRange},
		{"far beyond", "page(a b c) d", "page", math.MaxInt, "d", api.ErrRange},
		{"beyond those that are left, itself cut", "page(a b c)", "page", 3, "b", api.ErrRange},
		{"beyond none that is left", "page(a)", "page", 1, "a", api.ErrRange},
		{"below 0 within its own parent", "page(a b)", "page", -1, "a", api.ErrRange},

		{"one deeper than MaxNest", deep, "a15", 0, "c", api.ErrDeep},
		{"the same in a loose branch", deep, "b16", 0, "c", api.ErrDeep},
		{"a branch whose lowest is deeper", deep, "page", 0, "b0", api.ErrDeep},
		{"from the root's to a loose one", deep, "b1", 0, "a0", api.ErrDeep},
		{"just one deeper", deep, "a0", 1, "b1", api.ErrDeep},
		{"a lowest that isn't the first kid's", "page(" + chain("a", 14) + ") b(c d(e(f)) g)", "a13", 0, "b", api.ErrDeep},

		{"ErrGone ahead of ErrArg", "page(a)", "gone", 0, "page", api.ErrGone},
		{"ErrGone ahead of ErrRange", "page(a)", "gone", -1, "a", api.ErrGone},
		{"ErrGone ahead of ErrRange, of the kid", "page(a)", "a", -1, "gone", api.ErrGone},
		{"ErrGone ahead of ErrDeep", deep, "a15", 0, "gone", api.ErrGone},
		{"ErrArg ahead of ErrLoop and ErrRange", "page(a)", "page", -1, "page", api.ErrArg},
		{"ErrArg ahead of ErrRange", "page l", "l", 1, "page", api.ErrArg},
		{"ErrArg ahead of ErrDeep", deep, "b16", 0, "page", api.ErrArg},
		{"ErrLoop ahead of ErrRange", "page(a(b))", "b", 1, "a", api.ErrLoop},
		{"ErrLoop ahead of ErrDeep", deep, "a15", 0, "a0", api.ErrLoop},
		{"ErrRange ahead of ErrDeep", deep, "a15", 1, "c", api.ErrRange},
	} {
		t.Run(c.what, func(t *testing.T) {
			tr, n := grown(t, c.of)
			n["gone"] = made(t, tr, "z", handle(1, tr.Len()))
			drops(t, tr, n["gone"], 1)
			refused(t, tr, c.want, "Put", func() api.Errno { return tr.Put(n[c.parent], c.at, n[c.kid]) })
			holds(t, tr, c.of)
		})
	}
}

// At the depth MaxNest itself nodes and branches may be put, also where they are then a level up or down.
func TestPutDeep(t *testing.T) {
	if api.MaxNest != 16 {
		t.Fatal("the limit isn't that of the document")
	}
	tr, n := grown(t, "page("+chain("a", 15)+") c "+chain("b", 17))
	isOK(t, tr.Put(n["a14"], 0, n["c"])) // of the depth 16
	if got := walked(tr, tr.Root()); got[16] != (visit{16, n["c"]}) {
		t.Error(got)
	}
	refused(t, tr, api.ErrDeep, "Put", func() api.Errno { return tr.Put(n["c"], 0, n["b16"]) })
	refused(t, tr, api.ErrDeep, "Put", func() api.Errno { return tr.Put(n["page"], 0, n["b0"]) })
	isOK(t, tr.Put(n["page"], 0, n["b1"])) // its lowest is then of the depth 16
	refused(t, tr, api.ErrDeep, "Put", func() api.Errno { return tr.Put(n["a0"], 0, n["b1"]) })
	isOK(t, tr.Put(n["a0"], 1, n["b2"]))
	isOK(t, tr.Put(n["b1"], 0, n["b2"])) // back
	isOK(t, tr.Put(n["a14"], 1, n["b16"]))
	isOK(t, tr.Put(n["b0"], 0, n["b1"])) // in a loose branch: of the depth 15 at most now
	isOK(t, tr.Put(n["b15"], 0, n["b16"]))
	refused(t, tr, api.ErrDeep, "Put", func() api.Errno { return tr.Put(n["b16"], 0, n["c"]) })
	sound(t, tr)
}

// A branch at the depth MaxNest may be put anew within it, where nothing comes to lie deeper.
func TestPutDeepWithin(t *testing.T) {
	tr, n := grown(t, "page("+chain("a", 14)+") b(c d)")
	isOK(t, tr.Put(n["a13"], 0, n["b"])) // of 15, its kids of 16
	isOK(t, tr.Put(n["b"], 0, n["d"]))
	refused(t, tr, api.ErrDeep, "Put", func() api.Errno { return tr.Put(n["c"], 0, n["d"]) })
	isOK(t, tr.Put(n["a13"], 0, n["d"]))
	isOK(t, tr.Put(n["d"], 0, n["c"]))
	refused(t, tr, api.ErrDeep, "Put", func() api.Errno { return tr.Put(n["b"], 0, n["d"]) })
	isOK(t, tr.Put(n["a12"], 0, n["d"]))
	isOK(t, tr.Put(n["d"], 0, n["b"]))
	holds(t, tr, "page("+strings.Replace(chain("a", 14), "a12(a13)", "a12(d(b c) a13)", 1)+")")
}

// A node may have as many kids as there may be nodes.
func TestPutMany(t *testing.T) {
	tr := dom.New()
	var want []arena.Handle
	for i := 1; i < api.MaxNodes; i++ {
		h := made(t, tr, "a", handle(1, i))
		at := (i * 7) % (len(want) + 1)
		isOK(t, tr.Put(tr.Root(), at, h))
		want = slices.Insert(want, at, h)
	}
	sound(t, tr)
	if n, _ := tr.Node(tr.Root()); !slices.Equal(n.Kids, want) {
		t.Errorf("%v, not %v", n.Kids, want)
	}
	refused(t, tr, api.ErrRange, "Put", func() api.Errno { return tr.Put(tr.Root(), 63, want[5]) })
	isOK(t, tr.Put(tr.Root(), 62, want[5]))
	if n, _ := tr.Node(tr.Root()); n.Kids[62] != want[5] {
		t.Error(n.Kids)
	}
}

// P17.2: Cut

func TestCut(t *testing.T) {
	for _, c := range []struct{ of, cut, want string }{
		{"page(a)", "a", "page a"},
		{"page(a b c)", "a", "page(b c) a"},
		{"page(a b c)", "b", "page(a c) b"},
		{"page(a b c)", "c", "page(a b) c"},
		{"page(a(b(c) d) e)", "a", "page(e) a(b(c) d)"},
		{"page(a(b(c) d) e)", "b", "page(a(d) e) b(c)"},
		{"page(a(b(c) d) e)", "c", "page(a(b d) e) c"},
		{"page(a) l", "l", "page(a) l"}, // it is loose
		{"page(a) l(m)", "l", "page(a) l(m)"},
		{"page l(m(n))", "m", "page l m(n)"},
	} {
		tr, n := grown(t, c.of)
		for range 2 {
			isOK(t, tr.Cut(n[c.cut]))
			holds(t, tr, c.want)
		}
	}
	tr, n := grown(t, "page(a(b)) l")
	isOK(t, tr.SetText(n["a"], "x"))
	isOK(t, tr.SetAttr(n["a"], "id", "y"))
	isOK(t, tr.SetText(n["page"], "z"))
	isOK(t, tr.Cut(n["a"]))
	if got := told(tr); got != "1024 page^0{z}[], 1025 a^0{x}[id=y 1026], 1026 b^1025{}[], 1027 l^0{}[]" {
		t.Error(got)
	}
	for _, c := range []struct {
		h    arena.Handle
		want api.Errno
	}{{n["page"], api.ErrArg}, {0, api.ErrGone}, {n["gone"], api.ErrGone}} {
		refused(t, tr, c.want, "Cut", func() api.Errno { return tr.Cut(c.h) })
	}
}

// P17.2: Drop

func TestDrop(t *testing.T) {
	for _, c := range []struct {
		of, drop string
		many     int
		want     string
	}{
		{"page(a)", "a", 1, "page"},
		{"page(a b c)", "a", 1, "page(b c)"},
		{"page(a b c)", "b", 1, "page(a c)"},
		{"page(a b c)", "c", 1, "page(a b)"},
		{"page(a(b(c) d) e)", "a", 4, "page(e)"},
		{"page(a(b(c) d) e)", "b", 2, "page(a(d) e)"},
		{"page(a(b(c) d) e)", "c", 1, "page(a(b d) e)"},
		{"page(a) l", "l", 1, "page(a)"},
		{"page(a) l(m n(o))", "l", 4, "page(a)"},
		{"page(a) l(m n(o))", "n", 2, "page(a) l(m)"},
		{"page(" + chain("a", 16) + ")", "a0", 16, "page"},
	} {
		tr, n := grown(t, c.of)
		before := there(tr)
		drops(t, tr, n[c.drop], c.many)
		holds(t, tr, c.want)
		if left := there(tr); len(left) != len(before)-c.many {
			t.Errorf("%v of %v are left", left, before)
		}
		cantDrop(t, tr, n[c.drop], api.ErrGone) // twice
		holds(t, tr, c.want)
	}
	tr, n := grown(t, "page(a(b)) l")
	cantDrop(t, tr, n["page"], api.ErrArg)
	cantDrop(t, tr, 0, api.ErrGone)
	drops(t, tr, n["a"], 2)
	cantDrop(t, tr, n["b"], api.ErrGone) // it was within
}

// A branch of all nodes but the root.
func TestDropAll(t *testing.T) {
	tr := dom.New()
	top := made(t, tr, "a", 1025)
	isOK(t, tr.Put(tr.Root(), 0, top))
	for i := 2; i < api.MaxNodes; i++ {
		isOK(t, tr.Put(handle(1, 1+i/8), 0, made(t, tr, "a", handle(1, i))))
	}
	sound(t, tr)
	cantMake(t, tr, "b", api.ErrFull)
	drops(t, tr, top, 63)
	holds(t, tr, "page")
	for i := 1; i < api.MaxNodes; i++ {
		made(t, tr, "b", handle(2, i))
	}
	cantMake(t, tr, "b", api.ErrFull)
}

// P17.3: SetText

func TestSetText(t *testing.T) {
	tr, n := grown(t, "page(a(b)) l")
	for _, h := range []arena.Handle{n["page"], n["a"], n["b"], n["l"]} {
		for _, text := range []string{"x", "", "some text", strings.Repeat("y", 4095), strings.Repeat("\x00\xff", 2048), " \r\n", "é", ""} {
			isOK(t, tr.SetText(h, text))
			if got, e := tr.Node(h); got.Text != text || e != api.OK {
				t.Errorf("%.20q, %d, not %.20q", got.Text, int(e), text)
			}
			for _, many := range []int{4097, 4098, 8192, 1 << 20} {
				refused(t, tr, api.ErrLong, "SetText", func() api.Errno { return tr.SetText(h, strings.Repeat("x", many)) })
			}
		}
		isOK(t, tr.SetText(h, "of "+strconv.Itoa(int(h))))
	}
	for _, text := range []string{"x", "", strings.Repeat("x", 4097)} { // ErrGone ahead of ErrLong
		refused(t, tr, api.ErrGone, "SetText", func() api.Errno { return tr.SetText(n["gone"], text) })
		refused(t, tr, api.ErrGone, "SetText", func() api.Errno { return tr.SetText(0, text) })
	}
	if got := told(tr); got != "1024 page^0{of 1024}[1025], 1025 a^1024{of 1025}[1026], 1026 b^1025{of 1026}[], 1027 l^0{of 1027}[]" {
		t.Error(got)
	}
}

// P17.3: SetAttr, Attr

// attrs: all attributes of a node, as Node and Attr tell them.
func attrs(t *testing.T, tr *dom.Tree, h arena.Handle) string {
	t.Helper()
	n, _ := tr.Node(h)
	soundAttrs(t, n)
	var l []string
	for _, a := range n.Attrs {
		l = append(l, a[0]+"="+a[1])
		isAttr(t, tr, h, a[0], a[1])
	}
	return strings.Join(l, " ")
}

// isAttr: an attribute's text, "" where there is none.
func isAttr(t *testing.T, tr *dom.Tree, h arena.Handle, name, want string) {
	t.Helper()
	if got, e := tr.Attr(h, name); got != want || e != api.OK {
		t.Errorf("Attr(%d, %.80q): %.80q, %d, not %.80q", h, name, got, int(e), want)
	}
}

func TestSetAttr(t *testing.T) {
	tr, n := grown(t, "page(a) l")
	for _, h := range []arena.Handle{n["page"], n["a"], n["l"]} {
		for _, c := range []struct{ name, text, want string }{
			{"m", "1", "m=1"},
			{"x", "2", "m=1 x=2"},
			{"c", "3", "c=3 m=1 x=2"},
			{"n", "4", "c=3 m=1 n=4 x=2"},
			{"n", "5", "c=3 m=1 n=5 x=2"}, // another text
			{"n", "5", "c=3 m=1 n=5 x=2"}, // the same once more
			{"M", "6", "M=6 c=3 m=1 n=5 x=2"},
			{"mm", "7", "M=6 c=3 m=1 mm=7 n=5 x=2"},
			{"!", "8", "!=8 M=6 c=3 m=1 mm=7 n=5 x=2"},
			{"m", "", "!=8 M=6 c=3 mm=7 n=5 x=2"}, // gone
			{"m", "", "!=8 M=6 c=3 mm=7 n=5 x=2"}, // it wasn't there
			{"y", "", "!=8 M=6 c=3 mm=7 n=5 x=2"},
			{"m", "9", "!=8 M=6 c=3 m=9 mm=7 n=5 x=2"}, // there again
			{"!", "", "M=6 c=3 m=9 mm=7 n=5 x=2"},
			{"x", "", "M=6 c=3 m=9 mm=7 n=5"},
			{"~", " a=b\x00", "M=6 c=3 m=9 mm=7 n=5 ~= a=b\x00"},
		} {
			isOK(t, tr.SetAttr(h, c.name, c.text))
			if got := attrs(t, tr, h); got != c.want {
				t.Errorf("%q=%q: %q, not %q", c.name, c.text, got, c.want)
			}
			isAttr(t, tr, h, c.name, c.text)
		}
	}
	holds(t, tr, "page(a) l")
}

// Names and texts that may be, and those that may not.
func TestSetAttrForm(t *testing.T) {
	good, bad := goodAndBad()
	for _, name := range good {
		tr := dom.New()
		isOK(t, tr.SetAttr(tr.Root(), name, "x"))
		if got := attrs(t, tr, tr.Root()); got != name+"=x" {
			t.Errorf("%q: %q", name, got)
		}
		isOK(t, tr.SetAttr(tr.Root(), name, ""))
		if got := attrs(t, tr, tr.Root()); got != "" {
			t.Errorf("%q: %q", name, got)
		}
	}
	tr := dom.New()
	isOK(t, tr.SetAttr(tr.Root(), "a", "x"))
	for _, name := range bad {
		for _, text := range []string{"x", "", strings.Repeat("x", 4097)} { // ErrForm ahead of ErrLong
			refused(t, tr, api.ErrForm, "SetAttr", func() api.Errno { return tr.SetAttr(tr.Root(), name, text) })
			refused(t, tr, api.ErrGone, "SetAttr", func() api.Errno { return tr.SetAttr(1025, name, text) }) // and ErrGone ahead of both
		}
		isAttr(t, tr, tr.Root(), name, "")
	}
	for _, text := range []string{strings.Repeat("x", 4095), strings.Repeat("\xff\x00", 2048)} {
		isOK(t, tr.SetAttr(tr.Root(), "a", text))
		isAttr(t, tr, tr.Root(), "a", text)
	}
	for _, many := range []int{4097, 4098, 1 << 20} {
		refused(t, tr, api.ErrLong, "SetAttr", func() api.Errno { return tr.SetAttr(tr.Root(), "a", strings.Repeat("x", many)) })
		refused(t, tr, api.ErrLong, "SetAttr", func() api.Errno { return tr.SetAttr(tr.Root(), "b", strings.Repeat("x", many)) })
	}
}

// As many attributes as there may be, and one more.
func TestSetAttrFull(t *testing.T) {
	if api.MaxAttrs != 8 {
		t.Fatal("the limit isn't that of the document")
	}
	tr, n := grown(t, "page(a)")
	for _, name := range strings.Split("hcfbgaed", "") {
		isOK(t, tr.SetAttr(n["a"], name, name))
	}
	const full = "a=a b=b c=c d=d e=e f=f g=g h=h"
	if got := attrs(t, tr, n["a"]); got != full {
		t.Error(got)
	}
	for _, name := range []string{"i", "A", "aa", "cc"} {
		refused(t, tr, api.ErrFull, "SetAttr", func() api.Errno { return tr.SetAttr(n["a"], name, "x") })
		refused(t, tr, api.ErrFull, "SetAttr", func() api.Errno { return tr.SetAttr(n["a"], name, "") }) // there are MaxAttrs of other names
		refused(t, tr, api.ErrLong, "SetAttr", func() api.Errno { return tr.SetAttr(n["a"], name, strings.Repeat("x", 4097)) })
		refused(t, tr, api.ErrForm, "SetAttr", func() api.Errno { return tr.SetAttr(n["a"], name+" ", "x") })
		isAttr(t, tr, n["a"], name, "")
	}
	for _, name := range strings.Split("hcfbgaed", "") { // another text for one of these
		isOK(t, tr.SetAttr(n["a"], name, "x"))
		isAttr(t, tr, n["a"], name, "x")
		isOK(t, tr.SetAttr(n["a"], name, name))
		refused(t, tr, api.ErrLong, "SetAttr", func() api.Errno { return tr.SetAttr(n["a"], name, strings.Repeat("x", 4097)) })
	}
	isOK(t, tr.SetAttr(tr.Root(), "i", "x")) // another node has room of its own
	isOK(t, tr.SetAttr(n["a"], "d", ""))
	isOK(t, tr.SetAttr(n["a"], "dd", "x"))
	if got := attrs(t, tr, n["a"]); got != strings.Replace(full, "d=d", "dd=x", 1) {
		t.Error(got)
	}
	refused(t, tr, api.ErrFull, "SetAttr", func() api.Errno { return tr.SetAttr(n["a"], "d", "x") })
}

// Attr of names that aren't there, whatever they are, and of nodes that have others.
func TestAttr(t *testing.T) {
	tr, n := grown(t, "page(a b)")
	isOK(t, tr.SetAttr(n["a"], "id", "x"))
	isOK(t, tr.SetAttr(n["b"], "if", "y"))
	isAttr(t, tr, n["a"], "id", "x")
	isAttr(t, tr, n["b"], "if", "y")
	for _, name := range []string{"if", "ID", "i", "idd", "", " ", "id ", "x", "\x00", strings.Repeat("i", 1<<20)} {
		isAttr(t, tr, n["a"], name, "")
		isAttr(t, tr, n["page"], name, "")
	}
	for _, h := range []arena.Handle{0, n["gone"], -1} {
		for _, name := range []string{"id", "", "none"} {
			if got, e := tr.Attr(h, name); got != "" || e != api.ErrGone {
				t.Errorf("Attr(%d): %q, %d", h, got, int(e))
			}
		}
	}
}

// P17.4: Walk

// steps: how the tests write what a Walk tells: how much deeper, and the tag.
func steps(tr *dom.Tree, h arena.Handle) string {
	var l []string
	for deeper, below := range tr.Walk(h) {
		n, _ := tr.Node(below)
		l = append(l, strconv.Itoa(deeper)+n.Tag)
	}
	return strings.Join(l, " ")
}

func TestWalk(t *testing.T) {
	tr, n := grown(t, "page(a(b(c) d) e f(g(h(i)))) l m(o(p) q)")
	for tag, want := range map[string]string{
		"page": "0page 1a 2b 3c 2d 1e 1f 2g 3h 4i",
		"a":    "0a 1b 2c 1d",
		"b":    "0b 1c",
		"c":    "0c",
		"f":    "0f 1g 2h 3i",
		"l":    "0l",
		"m":    "0m 1o 2p 1q",
		"o":    "0o 1p",
		"none": "",
		"gone": "",
	} {
		for range 2 {
			if got := steps(tr, n[tag]); got != want {
				t.Errorf("%s: %q, not %q", tag, got, want)
			}
		}
	}
	drops(t, tr, n["b"], 2)
	if got := steps(tr, n["b"]) + steps(tr, n["c"]); got != "" { // of what has gone
		t.Error(got)
	}
	made(t, tr, "x", handle(2, 2))
	if got := steps(tr, n["b"]); got != "" {
		t.Error(got)
	}
	if got := steps(dom.New(), 1024); got != "0page" {
		t.Error(got)
	}
}

// The order is that of the kids, whatever their handles.
func TestWalkInOrder(t *testing.T) {
	tr, n := grown(t, "page(a(d e) b c)")
	isOK(t, tr.Put(n["page"], 0, n["b"]))
	isOK(t, tr.Put(n["page"], 2, n["a"]))
	isOK(t, tr.Put(n["a"], 0, n["e"]))
	if got := steps(tr, n["page"]); got != "0page 1b 1c 1a 2e 2d" {
		t.Error(got)
	}
}

// To stop early is allowed, wherever that is, and the same iterator may be gone through once more.
func TestWalkStopped(t *testing.T) {
	tr, n := grown(t, "page(a(b(c) d) e)")
	walk := tr.Walk(n["page"])
	all := []arena.Handle{n["page"], n["a"], n["b"], n["c"], n["d"], n["e"]}
	for stop := range len(all) + 1 {
		var l []arena.Handle
		for _, h := range walk {
			if len(l) == stop {
				break
			}
			l = append(l, h)
		}
		if !slices.Equal(l, all[:stop]) {
			t.Errorf("stopped behind %d: %v", stop, l)
		}
	}
	within := 0
	for range walk {
		for range walk {
			within++
		}
	}
	if within != 36 {
		t.Errorf("within one another: %d", within)
	}
}

// A walk ends, whatever is done meanwhile: it tells what there was when it began.
func TestWalkMeanwhile(t *testing.T) {
	tr, n := grown(t, "page(a b)")
	told := 0
	for range tr.Walk(n["page"]) {
		if told++; told > api.MaxNodes {
			t.Fatal("it doesn't end")
		}
		tr.Cut(n["a"])
		tr.Cut(n["b"])
		if told%2 == 1 {
			isOK(t, tr.Put(n["a"], 0, n["b"]))
		} else {
			isOK(t, tr.Put(n["b"], 0, n["a"]))
		}
	}
	tr, n = grown(t, "page(a(b c) d)")
	var l []arena.Handle
	for _, h := range tr.Walk(n["page"]) {
		l = append(l, h)
		if h == n["a"] {
			drops(t, tr, h, 3)
		}
	}
	if !slices.Equal(l, []arena.Handle{n["page"], n["a"], n["b"], n["c"], n["d"]}) {
		t.Error(l)
	}
	holds(t, tr, "page(d)")
}

// P17.4: Find

// finds: which node is told, by its tag ("": none is).
func finds(t *testing.T, tr *dom.Tree, n map[string]arena.Handle, name, text, want string) {
	t.Helper()
	h, e := tr.Find(name, text)
	if want == "" && (h != 0 || e != api.ErrNone) || want != "" && (h != n[want] || e != api.OK) {
		t.Errorf("Find(%q, %.80q): %d, %d, not %q", name, text, h, int(e), want)
	}
}

func TestFind(t *testing.T) {
	tr, n := grown(t, "page(a(b(c) d) e) l(m)")
	for _, c := range []struct{ tag, name, text string }{
		{"c", "id", "x"}, {"d", "id", "x"}, {"e", "id", "x"}, // the first of several
		{"b", "id", "y"}, {"a", "class", "x"}, {"d", "class", "z"}, {"e", "k", "id"},
		{"page", "of", "all"}, {"e", "of", "all"},
		{"l", "id", "loose"}, {"m", "id", "within"}, {"l", "only", "x"},
	} {
		isOK(t, tr.SetAttr(n[c.tag], c.name, c.text))
	}
	for _, c := range []struct{ name, text, want string }{
		{"id", "x", "c"}, {"id", "y", "b"}, {"class", "x", "a"}, {"class", "z", "d"}, {"k", "id", "e"}, {"of", "all", "page"},
		{"id", "loose", ""}, {"id", "within", ""}, {"only", "x", ""}, // a loose one alone has it
		{"id", "", ""}, {"", "", ""}, {"none", "", ""}, {"only", "", ""}, // the empty text
		{"id", "z", ""}, {"class", "y", ""}, {"ID", "x", ""}, {"id", "X", ""}, {"id", "xx", ""}, {"", "x", ""}, {"none", "x", ""}, {"i d", "x", ""}, {"id", strings.Repeat("x", 1<<20), ""}, {strings.Repeat("x", 1<<20), "x", ""},
	} {
		finds(t, tr, n, c.name, c.text, c.want)
	}
	isOK(t, tr.SetAttr(n["c"], "id", ""))
	finds(t, tr, n, "id", "x", "d")
	isOK(t, tr.Put(n["page"], 0, n["e"])) // ahead of all now
	finds(t, tr, n, "id", "x", "e")
	drops(t, tr, n["e"], 1)
	finds(t, tr, n, "id", "x", "d")
	isOK(t, tr.Cut(n["a"]))
	finds(t, tr, n, "id", "x", "")
	isOK(t, tr.Put(n["page"], 0, n["l"]))
	finds(t, tr, n, "id", "loose", "l")
	finds(t, tr, n, "id", "within", "m")
	finds(t, dom.New(), nil, "id", "", "")
	finds(t, dom.New(), nil, "id", "x", "")
}

// P17.4: Text

// isText: what Text tells of a node, or an error alone.
func isText(t *testing.T, tr *dom.Tree, h arena.Handle, want string, errno api.Errno) {
	t.Helper()
	if got, e := tr.Text(h); got != want || e != errno {
		t.Errorf("Text(%d): %.80q (%d bytes), %d, not %.80q, %d", h, got, len(got), int(e), want, int(errno))
	}
}

func TestText(t *testing.T) {
	tr, n := grown(t, "page(a(b(c) d) e) l(m)")
	for _, h := range n {
		if h != 0 && h != n["gone"] {
			isText(t, tr, h, "", api.OK)
		}
	}
	for _, tag := range []string{"page", "a", "b", "c", "d", "e", "l", "m"} {
		isOK(t, tr.SetText(n[tag], tag+"."))
	}
	isOK(t, tr.SetText(n["b"], ""))
	for tag, want := range map[string]string{"page": "page.a.c.d.e.", "a": "a.c.d.", "b": "c.", "c": "c.", "e": "e.", "l": "l.m.", "m": "m."} {
		isText(t, tr, n[tag], want, api.OK)
	}
	for _, h := range []arena.Handle{0, -1, n["gone"]} {
		isText(t, tr, h, "", api.ErrGone)
	}
	isOK(t, tr.Put(n["page"], 0, n["e"]))
	isText(t, tr, n["page"], "page.e.a.c.d.", api.OK)
}

// Texts of as many bytes as there may be all in all, and of more.
func TestTextLong(t *testing.T) {
	tr, n := grown(t, "page(a(b) c) l")
	x, y := strings.Repeat("x", 4000), strings.Repeat("y", 96)
	isOK(t, tr.SetText(n["a"], x))
	isOK(t, tr.SetText(n["c"], y))
	isText(t, tr, n["page"], x+y, api.OK)
	for _, tag := range []string{"page", "b"} {
		isOK(t, tr.SetText(n[tag], "z"))
		isText(t, tr, n["page"], "", api.ErrLong)
		isOK(t, tr.SetText(n[tag], ""))
		isText(t, tr, n["page"], x+y, api.OK)
	}
	isOK(t, tr.SetText(n["l"], strings.Repeat("z", 4096))) // loose: not of the root's
	isText(t, tr, n["page"], x+y, api.OK)
	isText(t, tr, n["l"], strings.Repeat("z", 4096), api.OK)
	isOK(t, tr.Put(n["b"], 0, n["l"]))
	isText(t, tr, n["page"], "", api.ErrLong)
	isText(t, tr, n["a"], "", api.ErrLong)
	isText(t, tr, n["b"], strings.Repeat("z", 4096), api.OK)
	isText(t, tr, n["c"], y, api.OK)
	sound(t, tr)

	full := dom.New()
	for i := 1; i < api.MaxNodes; i++ {
		isOK(t, full.Put(full.Root(), 0, made(t, full, "a", handle(1, i))))
		isOK(t, full.SetText(handle(1, i), strings.Repeat("x", 65)))
	}
	isText(t, full, full.Root(), strings.Repeat("x", 63*65), api.OK)
	isOK(t, full.SetText(full.Root(), "y"))
	isText(t, full, full.Root(), "y"+strings.Repeat("x", 63*65), api.OK)
	for i := 1; i < api.MaxNodes; i++ {
		isOK(t, full.SetText(handle(1, i), strings.Repeat("x", 4096)))
	}
	isText(t, full, full.Root(), "", api.ErrLong)
}

// P17.4: Len

func TestLen(t *testing.T) {
	tr := dom.New()
	counts := func(want int) {
		t.Helper()
		if many := tr.Len(); many != want {
			t.Errorf("Len: %d, not %d", many, want)
		}
	}
	counts(1)
	for i := 1; i < api.MaxNodes; i++ {
		h, _ := tr.Make("a")
		counts(i + 1) // loose
		tr.Put(tr.Root(), 0, h)
		counts(i + 1)
	}
	tr.Make("a")
	counts(64)
	tr.Cut(1025)
	counts(64)
	tr.Drop(1025)
	counts(63)
	tr.Drop(1025)
	counts(63)
	tr.Put(1026, 0, 1027)
	tr.Put(1026, 0, 1028)
	tr.Drop(1026)
	counts(60)
	tr.Drop(tr.Root())
	counts(60)
}

// P17.4: Copy

// A copy is the same under the same handles, and goes on as the first one would; what is done to one isn't done to the other one.
func TestCopy(t *testing.T) {
	a, n := grown(t, "page(a(b c) d) l(m)")
	isOK(t, a.SetText(n["a"], "x"))
	isOK(t, a.SetAttr(n["a"], "id", "y"))
	isOK(t, a.SetAttr(n["a"], "k", "z"))
	drops(t, a, n["c"], 1)
	first := told(a)
	same := func(tr *dom.Tree, want string) {
		t.Helper()
		sound(t, tr)
		if got := told(tr); got != want {
			t.Errorf("%q, not %q", got, want)
		}
	}
	b := a.Copy()
	same(b, first)
	if b.Root() != a.Root() || b == a {
		t.Error("its root is another one, or it is the same tree")
	}

	// The copy is changed.
	isOK(t, b.SetText(n["a"], "other"))
	isOK(t, b.SetAttr(n["a"], "id", "other"))
	isOK(t, b.SetAttr(n["a"], "k", ""))
	isOK(t, b.SetAttr(n["a"], "a", "new"))
	isOK(t, b.Put(n["page"], 0, n["d"]))
	isOK(t, b.Put(n["b"], 0, n["l"]))
	made(t, b, "e", handle(2, 3))
	isOK(t, b.Put(n["page"], 2, handle(2, 3)))
	drops(t, b, n["m"], 1)
	holds(t, b, "page(d a(b(l)) e)")
	second := told(b)
	same(a, first)

	// The first one is changed behind it.
	isOK(t, a.Cut(n["b"]))
	isOK(t, a.SetText(n["page"], "z"))
	isOK(t, a.SetAttr(n["a"], "k", "w"))
	made(t, a, "f", handle(2, 3))
	drops(t, a, n["l"], 2)
	holds(t, a, "page(a d) b f")
	same(b, second)

	// A copy of the copy.
	c := b.Copy()
	drops(t, b, n["a"], 3)
	drops(t, b, n["d"], 1)
	holds(t, b, "page(e)")
	same(c, second)
}

// Copies of a root alone, and of a full tree.
func TestCopyOfNoneAndAll(t *testing.T) {
	none := dom.New()
	apart := none.Copy()
	made(t, apart, "a", 1025)
	holds(t, none, "page")
	made(t, none, "b", 1025)
	holds(t, apart, "page a")

	full := dom.New()
	for i := 1; i < api.MaxNodes; i++ {
		made(t, full, "a", handle(1, i))
	}
	apart = full.Copy()
	cantMake(t, apart, "b", api.ErrFull)
	drops(t, apart, 1030, 1)
	cantMake(t, full, "b", api.ErrFull)
	made(t, apart, "b", 2054)
	sound(t, full)
	sound(t, apart)
}

// P17.1 to P17.4: handles that tell nothing, of every kind, in each call.

// tellsNothing: none of the handles is one, and a tree is as it was behind each way of using them.
func tellsNothing(t *testing.T, tr *dom.Tree, want api.Errno, other arena.Handle, wrong ...arena.Handle) {
	t.Helper()
	long := strings.Repeat("x", api.MaxText+1)
	for _, h := range wrong {
		if n, e := tr.Node(h); written(n) != "^0{}[]" || e != want {
			t.Errorf("Node(%d): %q, %d", h, written(n), int(e))
		}
		if text, e := tr.Attr(h, "id"); text != "" || e != want {
			t.Errorf("Attr(%d): %q, %d", h, text, int(e))
		}
		if got := walked(tr, h); got != nil {
			t.Errorf("Walk(%d): %v", h, got)
		}
		isText(t, tr, h, "", want)
		for what, deed := range map[string]func() api.Errno{
			"Put into it":      func() api.Errno { return tr.Put(h, 0, other) },
			"Put of it":        func() api.Errno { return tr.Put(other, 0, h) },
			"Put into itself":  func() api.Errno { return tr.Put(h, 0, h) },
			"Put of no place":  func() api.Errno { return tr.Put(h, -1, other) },
			"Cut":              func() api.Errno { return tr.Cut(h) },
			"SetText":          func() api.Errno { return tr.SetText(h, "x") },
			"SetText, long":    func() api.Errno { return tr.SetText(h, long) },
			"SetAttr":          func() api.Errno { return tr.SetAttr(h, "id", "x") },
			"SetAttr, away":    func() api.Errno { return tr.SetAttr(h, "id", "") },
			"SetAttr, no name": func() api.Errno { return tr.SetAttr(h, "", long) },
		} {
			refused(t, tr, want, what, deed)
		}
		cantDrop(t, tr, h, want)
	}
}

func TestWrongHandles(t *testing.T) {
	wrong := []arena.Handle{
		// The number 0.
		0, 1, 2, 63, 64, 1023,
		// Slots in which nothing ever was, or that aren't there.
		1029, 1087, 1088, 1024 + 1023,
		// Numbers still to come.
		2048, 2049, 3074,
		// What lay in a slot where another node lies now, what will lie there, and what lay where nothing lies now.
		1026, 4098, 1028,
		// Below zero, and far away.
		-1, -2, -1024, -1023, -1025, -2047, -2048, math.MinInt, math.MinInt + 1,
		math.MaxInt, math.MaxInt - 1023, 1<<32 + 1024, 1<<42 + 1025, -1<<32 + 1024,
	}
	tr, n := grown(t, "page(a(b) c d)")
	isOK(t, tr.SetAttr(n["a"], "id", "x"))
	drops(t, tr, n["b"], 1)
	drops(t, tr, n["d"], 1)
	made(t, tr, "e", 2050)
	tellsNothing(t, tr, api.ErrGone, n["c"], wrong...)
	holds(t, tr, "page(a c) e")
	drops(t, tr, n["a"], 1)
	drops(t, tr, n["c"], 1)
	tellsNothing(t, tr, api.ErrGone, 2050, append(wrong, n["a"], n["c"])...)
	tellsNothing(t, dom.New(), api.ErrGone, 1024, append(wrong, n["a"], n["c"], 2050)...)
}

// Each way on a nil tree.
func TestNil(t *testing.T) {
	var tr *dom.Tree
	tellsNothing(t, tr, api.ErrArg, 1024, 0, 1, 1024, 1025, 2048, -1, math.MinInt, math.MaxInt)
	for _, tag := range []string{"a", "", "a b", strings.Repeat("a", 64)} {
		cantMake(t, tr, tag, api.ErrArg)
	}
	for _, text := range []string{"x", ""} {
		if h, e := tr.Find("id", text); h != 0 || e != api.ErrArg {
			t.Errorf("Find: %d, %d", h, int(e))
		}
	}
	if tr.Root() != 0 || tr.Len() != 0 || tr.Copy() != nil {
		t.Error(tr.Root(), tr.Len(), tr.Copy())
	}
}

// Example 1.
func TestExample(t *testing.T) {
	tr := dom.New()
	a, _ := tr.Make("a")
	isOK(t, tr.Put(tr.Root(), 0, a))
	b, _ := tr.Make("b")
	isOK(t, tr.Put(a, 0, b))
	if got, want := walked(tr, tr.Root()), []visit{{0, tr.Root()}, {1, a}, {2, b}}; !slices.Equal(got, want) {
		t.Errorf("%v, not %v", got, want)
	}
	refused(t, tr, api.ErrLoop, "Put", func() api.Errno { return tr.Put(b, 0, a) })
}
