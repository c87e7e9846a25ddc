package dom_test

import (
	"maps"
	"math/rand"
	"runtime"
	"slices"
	"strconv"
	"strings"
	"testing"
	"unsafe"
	"weak"

	"cordon/api"
	"cordon/arena"
	"cordon/dom"
)

// kid is in the model that one node is another one's.
type kid struct{ h, of arena.Handle }

// model is a tree by the chapter's words: its nodes without kids and parents, and, in one list, who is whose kid; those of one parent stand in it in their order.
type model struct {
	nodes map[arena.Handle]dom.Node
	kids  []kid
	last  [64]int // of each slot the how manieth node it was that lay there last
}

// newModel: that of the root alone.
func newModel() *model {
	m := &model{nodes: map[arena.Handle]dom.Node{1024: {Tag: "page"}}}
	m.last[0] = 1
	return m
}

// apart: the same one, that may be changed.
func (m *model) apart() *model {
	return &model{maps.Clone(m.nodes), slices.Clone(m.kids), m.last}
}

// kidsOf: a node's, in order.
func (m *model) kidsOf(h arena.Handle) []arena.Handle {
	var l []arena.Handle
	for _, k := range m.kids {
		if k.of == h {
			l = append(l, k.h)
		}
	}
	return l
}

// parent: a node's; 0: it has none.
func (m *model) parent(h arena.Handle) arena.Handle {
	for _, k := range m.kids {
		if k.h == h {
			return k.of
		}
	}
	return 0
}

// up: a node, its parent, that one's, and so on.
func (m *model) up(h arena.Handle) []arena.Handle {
	l := []arena.Handle{h}
	for m.parent(h) != 0 {
		h = m.parent(h)
		l = append(l, h)
	}
	return l
}

// deepest: the first of the nodes that are as deep in the root's branch as any.
func (m *model) deepest() arena.Handle {
	return slices.MaxFunc(m.walk(1024, 0), func(a, b visit) int { return a.deeper - b.deeper }).h
}

// walk: what a Walk tells.
func (m *model) walk(h arena.Handle, deeper int) []visit {
	if _, ok := m.nodes[h]; !ok {
		return nil
	}
	l := []visit{{deeper, h}}
	for _, k := range m.kidsOf(h) {
		l = append(l, m.walk(k, deeper+1)...)
	}
	return l
}

// deed is one thing that is done to a tree.
type deed struct {
	what       string // make, put, cut, drop, text, attr
	h, parent  arena.Handle
	at         int
	name, text string // of Make the name is the tag
}

// answer is what a deed tells: a handle, or how many, if it isn't refused.
type answer struct {
	told int
	e    api.Errno
}

// do: the deed on a tree.
func (d deed) do(tr *dom.Tree) answer {
	switch d.what {
	case "make":
		h, e := tr.Make(d.name)
		return answer{int(h), e}
	case "put":
		return answer{0, tr.Put(d.parent, d.at, d.h)}
	case "cut":
		return answer{0, tr.Cut(d.h)}
	case "drop":
		many, e := tr.Drop(d.h)
		return answer{many, e}
	case "text":
		return answer{0, tr.SetText(d.h, d.text)}
	}
	return answer{0, tr.SetAttr(d.h, d.name, d.text)}
}

// does: the deed on the model.
func (m *model) does(d deed) answer {
	_, ok := m.nodes[d.h]
	switch {
	case d.what == "make":
		return m.make(d.name)
	case !ok:
		return answer{0, api.ErrGone}
	case d.what == "put":
		return answer{0, m.put(d.parent, d.at, d.h)}
	case d.what == "text":
		return answer{0, m.setText(d.h, d.text)}
	case d.what == "attr":
		return answer{0, m.setAttr(d.h, d.name, d.text)}
	case d.h == 1024:
		return answer{0, api.ErrArg}
	}
	m.kids = slices.DeleteFunc(m.kids, func(k kid) bool { return k.h == d.h })
	if d.what == "cut" {
		return answer{}
	}
	gone := m.walk(d.h, 0)
	for _, v := range gone {
		delete(m.nodes, v.h)
		m.kids = slices.DeleteFunc(m.kids, func(k kid) bool { return k.of == v.h })
	}
	return answer{len(gone), api.OK}
}

// named: may it be a tag, or a name?
func named(s string) bool {
	return 0 < len(s) && len(s) < 64 && strings.Trim(s, tokenBytes) == ""
}

// make: what the chapters say of Make.
func (m *model) make(tag string) answer {
	if !named(tag) {
		return answer{0, api.ErrForm}
	}
	for slot, number := range m.last {
		if _, ok := m.nodes[handle(number, slot)]; !ok {
			m.last[slot]++
			m.nodes[handle(number+1, slot)] = dom.Node{Tag: tag}
			return answer{int(handle(number+1, slot)), api.OK}
		}
	}
	return answer{0, api.ErrFull}
}

// put: what the chapter says of Put of a node that is there.
func (m *model) put(parent arena.Handle, at int, h arena.Handle) api.Errno {
	if _, ok := m.nodes[parent]; !ok {
		return api.ErrGone
	}
	if h == 1024 {
		return api.ErrArg
	}
	if slices.Contains(m.up(parent), h) {
		return api.ErrLoop
	}
	cut := slices.DeleteFunc(slices.Clone(m.kids), func(k kid) bool { return k.h == h })
	places := []int{}
	for i, k := range cut {
		if k.of == parent {
			places = append(places, i)
		}
	}
	if at < 0 || at > len(places) {
		return api.ErrRange
	}
	then := slices.Insert(cut, append(places, len(cut))[at], kid{h, parent})
	before := m.kids
	m.kids = then
	for below := range m.nodes {
		if len(m.up(below)) > 17 { // the node itself, and 16 above it
			m.kids = before
			return api.ErrDeep
		}
	}
	return api.OK
}

// setText: what the chapter says of SetText of a node that is there.
func (m *model) setText(h arena.Handle, text string) api.Errno {
	if len(text) > 4096 {
		return api.ErrLong
	}
	n := m.nodes[h]
	n.Text = text
	m.nodes[h] = n
	return api.OK
}

// setAttr: what it says of SetAttr of a node that is there.
func (m *model) setAttr(h arena.Handle, name, text string) api.Errno {
	n := m.nodes[h]
	texts := map[string]string{}
	for _, a := range n.Attrs {
		texts[a[0]] = a[1]
	}
	delete(texts, name)
	switch {
	case !named(name):
		return api.ErrForm
	case len(text) > 4096:
		return api.ErrLong
	case len(texts) == 8:
		return api.ErrFull
	}
	texts[name] = text
	n.Attrs = nil
	for _, name := range slices.Sorted(maps.Keys(texts)) {
		if texts[name] != "" {
			n.Attrs = append(n.Attrs, [2]string{name, texts[name]})
		}
	}
	m.nodes[h] = n
	return api.OK
}

// sameNodes: a tree tells of the handles all that the model does.
func (m *model) sameNodes(t *testing.T, tr *dom.Tree, asked []arena.Handle) {
	t.Helper()
	if tr.Len() != len(m.nodes) || tr.Root() != 1024 {
		t.Fatalf("Len: %d, not %d; Root: %d", tr.Len(), len(m.nodes), tr.Root())
	}
	for _, h := range asked {
		want, ok := m.nodes[h]
		errno := api.OK
		if !ok {
			errno = api.ErrGone
		}
		want.Kids, want.Parent = m.kidsOf(h), m.parent(h)
		if got, e := tr.Node(h); e != errno || written(got) != written(want) {
			t.Fatalf("Node(%d): %q, %d, not %q, %d", h, written(got), int(e), written(want), int(errno))
		}
		if got := walked(tr, h); !slices.Equal(got, m.walk(h, 0)) {
			t.Fatalf("Walk(%d): %v, not %v", h, got, m.walk(h, 0))
		}
	}
}

// sameTexts: a tree tells the same texts and attributes as the model.
func (m *model) sameTexts(t *testing.T, tr *dom.Tree, asked []arena.Handle, names, texts []string) {
	t.Helper()
	for _, h := range asked {
		all, errno := "", api.OK
		for _, v := range m.walk(h, 0) {
			all += m.nodes[v.h].Text
		}
		if _, ok := m.nodes[h]; !ok {
			errno = api.ErrGone
		} else if len(all) > 4096 {
			all, errno = "", api.ErrLong
		}
		isText(t, tr, h, all, errno)
		for _, name := range names {
			want := ""
			for _, a := range m.nodes[h].Attrs {
				if a[0] == name {
					want = a[1]
				}
			}
			if got, e := tr.Attr(h, name); got != want || (e == api.ErrGone) != (errno == api.ErrGone) {
				t.Fatalf("Attr(%d, %q): %q, %d, not %q", h, name, got, int(e), want)
			}
		}
	}
	for _, name := range names {
		for _, text := range append(texts, "") {
			h, e := tr.Find(name, text)
			if want, errno := m.find(name, text); h != want || e != errno {
				t.Fatalf("Find(%q, %q): %d, %d, not %d", name, text, h, int(e), want)
			}
		}
	}
}

// find: what the chapter says of Find.
func (m *model) find(name, text string) (arena.Handle, api.Errno) {
	for _, v := range m.walk(1024, 0) {
		if text != "" && slices.Contains(m.nodes[v.h].Attrs, [2]string{name, text}) {
			return v.h, api.OK
		}
	}
	return 0, api.ErrNone
}

// both: a deed is done to a tree and to the model, and both tell the same; what is refused changes nothing.
func both(t *testing.T, tr *dom.Tree, m *model, d deed) answer {
	t.Helper()
	got, want := d.do(tr), m.does(d)
	if got != want {
		t.Fatalf("%+.60v: %v, not %v", d, got, want)
	}
	return got
}

// P17.1 to P17.5, of all trees that so many nodes can stand in, loose or not: all that Put, Cut and Drop may do to each is done to a copy, and held against the model.
func TestAllTrees(t *testing.T) {
	asked := []arena.Handle{1024, 1025, 1026, 1027, 1028}
	deeds := everyDeed(asked[:4])
	first, m := dom.New(), newModel()
	for _, tag := range []string{"a", "b", "c"} {
		both(t, first, m, deed{what: "make", name: tag})
	}
	type pair struct {
		tr *dom.Tree
		m  *model
	}
	seen := map[string]bool{shape(first): true}
	for left := []pair{{first, m}}; len(left) > 0; left = left[1:] {
		here := left[0]
		before := told(here.tr)
		for _, d := range deeds {
			apart, m := here.tr.Copy(), here.m.apart()
			a := both(t, apart, m, d)
			m.sameNodes(t, apart, asked)
			if now := shape(apart); !seen[now] && a.e == api.OK {
				seen[now] = true
				left = append(left, pair{apart, m})
			}
		}
		sound(t, here.tr)
		if now := told(here.tr); now != before { // what its copies did isn't its own
			t.Fatalf("%q became %q", before, now)
		}
	}
	// Of the root and none, one, two, three others: so many ways to stand.
	if want := 1 + 3*2 + 3*9 + 70; len(seen) != want {
		t.Errorf("%d trees, not %d", len(seen), want)
	}
}

// everyDeed: all that Put, Cut and Drop may do with nodes and with a handle that tells none.
func everyDeed(nodes []arena.Handle) []deed {
	l := []deed{}
	for _, h := range append(slices.Clone(nodes), 1028) {
		l = append(l, deed{what: "cut", h: h}, deed{what: "drop", h: h})
		for _, parent := range append(slices.Clone(nodes), 1028) {
			for at := -1; at < 5; at++ {
				l = append(l, deed{what: "put", h: h, parent: parent, at: at})
			}
		}
	}
	return l
}

// chosen is a random deed: mostly of handles that were given, with wrong ones among them.
func chosen(r *rand.Rand, given []arena.Handle, names, texts []string) deed {
	d := deed{
		what:   []string{"make", "make", "put", "put", "put", "put", "cut", "text", "attr", "attr", "drop"}[r.Intn(11)],
		h:      given[r.Intn(len(given))],
		parent: given[r.Intn(len(given))],
		at:     r.Intn(5) - 1,
		name:   names[r.Intn(len(names))],
		text:   texts[r.Intn(len(texts))],
	}
	if d.what == "put" && d.at > 0 {
		d.at = r.Intn(4) % d.at
	}
	return d
}

// And of long lives, in which trees come to be full, deep and of many kids.
func TestLongLives(t *testing.T) {
	names := []string{"a", "b", "id", "x", "~", "A", "k", "aa", "idx", "Z", "", "a b", strings.Repeat("n", 63), strings.Repeat("n", 64)}
	texts := []string{"", "x", "y", "some text", strings.Repeat("z", 1500), strings.Repeat("w", 4096), strings.Repeat("v", 4097)}
	met := map[answer]int{}
	for seed := range int64(24) {
		r := rand.New(rand.NewSource(seed))
		tr, m := dom.New(), newModel()
		given := []arena.Handle{1024, 0, -1, 1024, 1040}
		for range 1500 {
			d := chosen(r, given, names, texts)
			if seed%3 == 0 && r.Intn(3) == 0 { // some trees come to be deep
				d.parent = m.deepest()
			}
			if d.what == "drop" && len(m.nodes) < int(seed)*4 {
				continue // some trees are full most of the time
			}
			a := both(t, tr, m, d)
			met[answer{0, a.e}]++
			if d.what == "make" && a.e == api.OK {
				given = append(given, arena.Handle(a.told))
			}
			if r.Intn(40) == 0 {
				tr = tr.Copy()
			}
			if r.Intn(30) == 0 {
				soundOf(t, tr, slices.Sorted(maps.Keys(m.nodes)))
				m.sameNodes(t, tr, given)
				m.sameTexts(t, tr, given, names, texts)
			}
			if len(given) > 80 { // the eldest are mostly gone
				given = slices.Delete(given, 5, 10)
				given = slices.AppendSeq(given, maps.Keys(m.nodes))
				slices.Sort(given[5:])
				given = append(given[:5], slices.Compact(given[5:])...)
			}
		}
	}
	for _, e := range []api.Errno{api.OK, api.ErrArg, api.ErrForm, api.ErrLong, api.ErrFull, api.ErrDeep, api.ErrRange, api.ErrGone, api.ErrLoop} {
		if met[answer{0, e}] == 0 {
			t.Errorf("%d was never met", int(e))
		}
	}
}

// P17.2 in the deep: of two chains of any length each node of one is put into each of the other one.
func TestAllDepths(t *testing.T) {
	for _, many := range [][2]int{{16, 17}, {16, 3}, {9, 8}, {9, 9}, {1, 17}, {12, 12}} {
		tr, n := grown(t, "page("+chain("a", many[0])+") "+chain("b", many[1]))
		for i := range many[0] {
			for j := range many[1] {
				for _, c := range [][2]string{{"a" + strconv.Itoa(i), "b" + strconv.Itoa(j)}, {"b" + strconv.Itoa(j), "a" + strconv.Itoa(i)}} {
					depth, height := i+1, many[1]-1-j
					if c[0][0] == 'b' {
						depth, height = j, many[0]-1-i
					}
					want := api.OK
					if depth+1+height > 16 {
						want = api.ErrDeep
					}
					apart := tr.Copy()
					if e := apart.Put(n[c[0]], 0, n[c[1]]); e != want {
						t.Fatalf("%v: %v: %d, not %d", many, c, int(e), int(want))
					}
					sound(t, apart)
				}
			}
		}
	}
}

// overwrite changes what a Node answered, and its spare room.
func overwrite(n dom.Node) {
	kids, attrs := n.Kids[:cap(n.Kids)], n.Attrs[:cap(n.Attrs)]
	for i := range kids {
		kids[i] = 7
	}
	for i := range attrs {
		attrs[i] = [2]string{"!", "!"}
	}
}

// P17.5: answers are new memory: they may be changed without changing the tree, its copies or other answers.
func TestAnswered(t *testing.T) {
	tr, n := grown(t, "page(a(b c d) e) l")
	for _, name := range []string{"x", "y", "z"} {
		isOK(t, tr.SetAttr(n["a"], name, name))
	}
	apart := tr.Copy()
	first := told(tr)
	for _, here := range []*dom.Tree{tr, apart, apart.Copy()} {
		for _, h := range there(here) {
			one, _ := here.Node(h)
			two, _ := here.Node(h)
			before := written(two)
			overwrite(one)
			if written(two) != before {
				t.Errorf("another answer was changed: %q", written(two))
			}
			overwrite(two)
		}
		for _, there := range []*dom.Tree{tr, apart} {
			if got := told(there); got != first {
				t.Errorf("%q, not %q", got, first)
			}
			sound(t, there)
		}
	}
	// What was answered isn't changed by what is done behind it.
	a, _ := tr.Node(n["a"])
	before := written(a)
	isOK(t, tr.Put(n["a"], 0, n["d"]))
	isOK(t, tr.Put(n["a"], 0, n["l"]))
	isOK(t, tr.SetAttr(n["a"], "x", "other"))
	isOK(t, tr.SetAttr(n["a"], "y", ""))
	isOK(t, tr.SetAttr(n["a"], "a", "new"))
	drops(t, tr, n["a"], 5)
	if written(a) != before {
		t.Errorf("%q became %q", before, written(a))
	}
}

// What stands in a tree isn't changed by going on from a copy whose lists have spare room.
func TestCopiesGoOnApart(t *testing.T) {
	tr := dom.New()
	for i := 1; i < 40; i++ {
		h := made(t, tr, "a", handle(1, i))
		if i > 1 && i%3 == 0 {
			continue
		}
		isOK(t, tr.Put(tr.Root(), 0, h))
		apart := tr.Copy()
		before := told(tr)
		n, _ := tr.Node(tr.Root())
		for _, to := range []*dom.Tree{apart, apart.Copy()} {
			x, _ := to.Make("b")
			isOK(t, to.Put(to.Root(), len(n.Kids), x))
			isOK(t, to.Put(to.Root(), 0, n.Kids[len(n.Kids)-1]))
			isOK(t, to.Cut(n.Kids[0]))
			sound(t, to)
			if now := told(tr); now != before {
				t.Fatalf("%q became %q", before, now)
			}
		}
	}
}

// P17.5: what is handed in isn't kept: of a text that is part of a longer one that one goes, and a text in memory that somebody else may write is apart.
func TestHandedIn(t *testing.T) {
	tr := dom.New()
	longer := func(text string) (string, weak.Pointer[byte]) {
		whole := text + strings.Repeat(".", 1<<16)
		return whole[:len(text)], weak.Make(unsafe.StringData(whole))
	}
	var handed [4]weak.Pointer[byte]
	var text string
	text, handed[0] = longer("tag")
	h := made(t, tr, text, 1025)
	text, handed[1] = longer("its text")
	isOK(t, tr.SetText(h, text))
	text, handed[2] = longer("name")
	other, kept := longer("text")
	handed[3] = kept
	isOK(t, tr.SetAttr(h, text, other))
	text, other = "", ""
	runtime.GC()
	for i, p := range handed {
		if p.Value() != nil {
			t.Errorf("%d is kept", i)
		}
	}

	room := []byte("tagtextnameattr")
	shared := func(from, to int) string { return unsafe.String(&room[from], to-from) }
	h = made(t, tr, shared(0, 3), 1026)
	isOK(t, tr.SetText(h, shared(3, 7)))
	isOK(t, tr.SetAttr(h, shared(7, 11), shared(11, 15)))
	if string(room) != "tagtextnameattr" {
		t.Errorf("it was changed: %q", room)
	}
	clear(room)
	if got := told(tr); got != "1024 page^0{}[], 1025 tag^0{its text}[name=text], 1026 tag^0{text}[name=attr]" {
		t.Error(got)
	}
}

// What has gone isn't kept.
func TestLetsGo(t *testing.T) {
	tr, n := grown(t, "page(a(b))")
	isOK(t, tr.SetText(n["b"], strings.Repeat("x", 4096)))
	isOK(t, tr.SetAttr(n["b"], "id", strings.Repeat("y", 4096)))
	isOK(t, tr.SetText(n["page"], strings.Repeat("z", 4096)))
	b, _ := tr.Node(n["b"])
	root, _ := tr.Node(n["page"])
	gone := []weak.Pointer[byte]{weak.Make(unsafe.StringData(b.Text)), weak.Make(unsafe.StringData(b.Attrs[0][1])), weak.Make(unsafe.StringData(root.Text))}
	drops(t, tr, n["a"], 2)
	isOK(t, tr.SetText(n["page"], ""))
	b, root = dom.Node{}, dom.Node{}
	runtime.GC()
	for i, p := range gone {
		if p.Value() != nil {
			t.Errorf("%d is kept", i)
		}
	}
	runtime.KeepAlive(tr)
}

// R1: a tree that nobody made, but that is there, does no harm.
func TestNobodysTree(t *testing.T) {
	var tr dom.Tree
	if h, e := tr.Make("a"); h != 0 || e == api.OK {
		t.Errorf("Make: %d, %d", h, int(e))
	}
	tellsNothing(t, &tr, api.ErrGone, 0, 0, 1024, 1025, -1)
	if h, e := tr.Find("id", "x"); h != 0 || e != api.ErrNone {
		t.Errorf("Find: %d, %d", h, int(e))
	}
	if tr.Root() != 0 || tr.Len() != 0 || tr.Copy().Len() != 0 {
		t.Error(tr.Root(), tr.Len())
	}
}
