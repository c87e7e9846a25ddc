package jar_test

import (
	"bytes"
	"math"
	"math/rand"
	"slices"
	"strings"
	"testing"

	"cordon/api"
	"cordon/cookie"
	"cordon/jar"
	"cordon/origin"
	"cordon/url"
)

// item is a cookie in the model, a list in which all that were set stand in their order.
type item struct {
	c    cookie.Cookie
	at   url.URL
	over int // from this moment on; -1: never
}

type model []item

// longest: no path of the model's is longer.
const longest = 8

// place: a text that two have in common, if they are of one place.
func (i item) place() string {
	return strings.Join([]string{origin.Of(i.at).Text(), string(i.c.Name), i.c.Domain, string(i.c.Home(i.at))}, "\n")
}

func (i item) owner() string { return origin.Of(i.at).Text() }

func (i item) gone(now int) bool { return i.over >= 0 && now >= i.over }

// set: what the chapter says of Set, on the model; which error there is.
func (m *model) set(at url.URL, c cookie.Cookie, now int) api.Errno {
	if at.Port == 0 {
		return api.ErrArg
	}
	if now < 0 || now > 1<<40 {
		return api.ErrRange
	}
	if c.May(at) != api.OK {
		return api.ErrPolicy
	}
	one := item{c, at, -1}
	if c.Age != -1 {
		one.over = now + c.Age
	}
	var left model
	for _, i := range *m {
		if i.owner() == one.owner() && i.gone(now) || i.place() == one.place() {
			continue
		}
		left = append(left, i)
	}
	if c.Age != 0 {
		if left.count(one.owner()) == 8 {
			left = slices.DeleteFunc(left, func() func(item) bool {
				first := true
				return func(i item) bool {
					eldest := first && i.owner() == one.owner()
					first = first && !eldest
					return eldest
				}
			}())
		}
		left = append(left, one)
	}
	*m = left
	return api.OK
}

// sweep: what the chapter says of Sweep.
func (m *model) sweep(now int) int {
	before := len(*m)
	*m = slices.DeleteFunc(slices.Clone(*m), func(i item) bool { return i.gone(now) })
	return before - len(*m)
}

// count: how many are of an origin.
func (m model) count(owner string) int {
	n := 0
	for _, i := range m {
		if i.owner() == owner {
			n++
		}
	}
	return n
}

// meant: the cookies of an origin for a URL, as the tests write them, and the line of these.
func (m model) meant(owner string, u url.URL, now int) (lines, pairs string) {
	var all, named []string
	for length := longest; length >= 0; length-- {
		for _, i := range m {
			if len(i.c.Home(i.at)) == length && i.owner() == owner && !i.gone(now) && i.c.Meant(i.at, u) {
				all = append(all, told(i.c))
				named = append(named, string(i.c.Name)+"="+string(i.c.Value))
			}
		}
	}
	return strings.Join(all, "\n"), strings.Join(named, "; ")
}

// owners: the texts of those that have some.
func (m model) owners() string {
	var l []string
	for _, i := range m {
		if !slices.Contains(l, i.owner()) {
			l = append(l, i.owner())
		}
	}
	slices.Sort(l)
	return strings.Join(l, " ")
}

// asModel: a jar tells all that the model does.
func asModel(t *testing.T, j *jar.Jar, m model, asked []url.URL, now int) {
	t.Helper()
	if got, want := owners(j), m.owners(); got != want {
		t.Errorf("Owners: %q, not %q", got, want)
	}
	for _, at := range asked {
		owner := origin.Of(at)
		if n, want := j.Len(owner), m.count(owner.Text()); n != want {
			t.Errorf("Len of %q: %d, not %d", owner.Text(), n, want)
		}
		for _, u := range asked {
			lines, pairs := m.meant(owner.Text(), u, now)
			var got []string
			for c := range j.For(owner, u, now) {
				got = append(got, told(c))
			}
			if strings.Join(got, "\n") != lines {
				t.Errorf("For %q of %q at %d: %q, not %q", u.Text(), owner.Text(), now, got, lines)
			}
			if line := j.Line(owner, u, now); string(line) != pairs {
				t.Errorf("Line for %q of %q at %d: %q, not %q", u.Text(), owner.Text(), now, line, pairs)
			}
		}
	}
}

// deed is one thing that is done to a jar: a cookie that is set, or, of no line, a sweep.
type deed struct {
	at, line string
	now      int
}

// does: the same to a jar and to the model.
func does(t *testing.T, j *jar.Jar, m *model, d deed) {
	t.Helper()
	if d.line == "" {
		if n, want := j.Sweep(d.now), m.sweep(d.now); n != want {
			t.Errorf("Sweep at %d: %d, not %d", d.now, n, want)
		}
		return
	}
	at, c := place(t, d.at), parsed(t, d.line)
	if e, want := j.Set(at, c, d.now), m.set(at, c, d.now); e != want {
		t.Errorf("%q, set at %q at %d: %d, not %d", d.line, d.at, d.now, int(e), int(want))
	}
}

// P14.1 and P14.2 once more, of all that may be done in up to three deeds, held against the chapter's words.
func TestAllShortLives(t *testing.T) {
	deeds := []deed{
		{"http://a.org/", "n=1", 0}, {"http://a.org/", "n=2; Max-Age=2", 1}, {"http://a.org/x/y", "n=3", 2}, {"http://a.org/", "n=4; Path=/x; Max-Age=1", 2}, {"http://a.org/", "n=5; Max-Age=0", 1}, {"http://a.org/x/", "n=6; Max-Age=0", 3},
		{"http://a.org/", "n=7; Domain=org", 0}, {"http://a.org/", "m=8; Max-Age=1", 0}, {"http://a.org/", "n=9; Secure", 3},
		{"https://a.org/", "n=1; Secure; Max-Age=3", 0}, {"https://a.org/", "n=2; Domain=a.org", 0}, {"http://b.org/", "n=1; Max-Age=1; Domain=org", 1}, {"http://b.org/", "n=2; Domain=org; Max-Age=0", 2},
		{"", "n=1", 0}, {"http://a.org/", "n=1", -1}, {"", "", 1}, {"", "", 2}, {"", "", 3},
	}
	var asked []url.URL
	for _, text := range []string{"http://a.org/x/z", "https://a.org/", "http://b.org/x"} {
		asked = append(asked, place(t, text))
	}
	var lives func(j *jar.Jar, m model, left int)
	lives = func(j *jar.Jar, m model, left int) {
		for _, now := range []int{0, 1, 2, 3} {
			asModel(t, j, m, asked, now)
		}
		if left == 0 || t.Failed() {
			return
		}
		for _, d := range deeds {
			k, n := j.Copy(), slices.Clone(m)
			does(t, k, &n, d)
			lives(k, n, left-1)
		}
		asModel(t, j, m, asked, 0) // what its copies did isn't its own
	}
	lives(jar.New(), nil, 3)
}

// And of long lives, with more cookies of an origin than there may be.
func TestLongLives(t *testing.T) {
	servers := []string{"http://a.org", "https://a.org", "https://x.a.org", "http://a.org:81"}
	paths := []string{"", "/x", "/x/", "/x/y", "/x/y/z?q"}
	rests := []string{"", "", "", "; Path=/", "; Path=/x", "; Path=/x/", "; Domain=a.org", "; Domain=org; Path=/x", "; Secure"}
	ages := []string{"", "", "; Max-Age=0", "; Max-Age=1", "; Max-Age=9", "; Max-Age=30"}
	var asked []url.URL
	for _, text := range []string{"http://a.org/", "https://a.org/x/y/z", "https://x.a.org/x", "http://a.org:81/x/", "http://b/"} {
		asked = append(asked, place(t, text))
	}
	for seed := range int64(40) {
		r := rand.New(rand.NewSource(seed))
		j, m := jar.New(), model(nil)
		from := []int{0, api.MaxClock - 60, 1000}[seed%3]
		for i := range 120 {
			now := from + i + r.Intn(4) - 2
			d := deed{servers[r.Intn(len(servers))] + paths[r.Intn(len(paths))], string(rune('a'+r.Intn(4))) + "=" + string(rune('0'+i%10)) + rests[r.Intn(len(rests))] + ages[r.Intn(len(ages))], now}
			if r.Intn(30) == 0 {
				d.line = ""
			}
			does(t, j, &m, d)
			asModel(t, j, m, asked, now+r.Intn(12))
			if r.Intn(10) == 0 {
				j = j.Copy()
			}
		}
	}
}

// P14.3: what one origin sets changes nothing for another one.
func TestOriginsAreApart(t *testing.T) {
	const own = "https://a.org/x/"
	others := []string{"http://a.org/x/", "https://a.org:444/x/", "https://x.a.org/x/", "https://b.org/x/"}
	alone := filled(t, own, "a=1", "b=1; Domain=a.org; Max-Age=5", "c=1; Path=/", "d=1; Max-Age=1")
	among := jar.New()
	for i, line := range []string{"a=1", "b=1; Domain=a.org; Max-Age=5", "c=1; Path=/", "d=1; Max-Age=1"} {
		puts(t, among, own, line, 0)
		for _, at := range others {
			for n := range api.MaxCookies + i {
				puts(t, among, at, string(rune('a'+n))+"=9", 3+n)
			}
			puts(t, among, at, "a=1; Max-Age=0", 9)
		}
	}
	for _, at := range others {
		puts(t, among, at, "b=9; Domain=org", api.MaxClock)
		puts(t, among, at, "b=9; Domain=org; Max-Age=0", api.MaxClock)
	}
	owner := origin.Of(place(t, own))
	for _, to := range append(others, own) {
		u := place(t, to)
		for now := range 7 {
			if got, want := texts(among, owner, u, now), texts(alone, owner, u, now); got != want {
				t.Errorf("for %q at %d: %q, not %q", to, now, got, want)
			}
		}
	}
	if n := among.Len(owner); n != 4 {
		t.Error(n)
	}
}

// spoil: overwrites all that slices reach.
func spoil(l ...[]byte) {
	for _, b := range l {
		b = b[:cap(b)]
		for i := range b {
			b[i] = '#'
		}
	}
}

// roomy: a text with spare room behind it that isn't empty, and all of its memory.
func roomy(text string) (handedIn, memory []byte) {
	memory = []byte(text + "spare room")
	return memory[:len(text)], memory
}

// roomyCookie: a cookie with spare room behind its texts, and all of its memory.
func roomyCookie(c cookie.Cookie) (cookie.Cookie, [][]byte) {
	memory := make([][]byte, 3)
	c.Name, memory[0] = roomy(string(c.Name))
	c.Value, memory[1] = roomy(string(c.Value))
	c.Path, memory[2] = roomy(string(c.Path))
	return c, memory
}

// roomyURL: a URL with spare room behind its texts, and all of its memory.
func roomyURL(u url.URL) (url.URL, [][]byte) {
	memory := make([][]byte, 5)
	u.Scheme, memory[0] = roomy(string(u.Scheme))
	u.Host, memory[1] = roomy(string(u.Host))
	u.Path, memory[2] = roomy(string(u.Path))
	u.Query, memory[3] = roomy(string(u.Query))
	u.Fragment, memory[4] = roomy(string(u.Fragment))
	return u, memory
}

// unwritten: a call leaves all of this memory as it was.
func unwritten(t *testing.T, what string, memory [][]byte, call func()) {
	t.Helper()
	before := bytes.Join(memory, []byte{0})
	call()
	if !bytes.Equal(bytes.Join(memory, []byte{0}), before) {
		t.Errorf("%s changed what was handed in", what)
	}
}

func TestMemory(t *testing.T) {
	const at, line = "https://x.a.org/x/y?q#f", "a=1; Path=/x; Domain=a.org; Max-Age=9; Secure"
	j := jar.New()
	for _, line := range []string{line, "b=2", "c=3; Path=/x/y"} {
		c, ofCookie := roomyCookie(parsed(t, line))
		u, ofURL := roomyURL(place(t, at))
		memory := slices.Concat(ofCookie, ofURL)
		unwritten(t, "Set", memory, func() {
			if e := j.Set(u, c, 0); e != api.OK {
				t.Error(int(e))
			}
		})
		spoil(memory...)
	}
	const want = "c=3; Path=/x/y & " + line + " & b=2"
	has(t, j, at, 0, want)

	// Of what For is told nothing is kept; what it tells is new each time.
	u, memory := roomyURL(place(t, at))
	owner := origin.Of(u)
	var cookies func(func(cookie.Cookie) bool)
	unwritten(t, "For", memory, func() { cookies = j.For(owner, u, 0) })
	unwritten(t, "Line", memory, func() { spoil(j.Line(owner, u, 0)) })
	spoil(memory...)
	for range 3 {
		var l []string
		for c := range cookies {
			l = append(l, string(c.Text()))
			spoil(c.Name, c.Value, c.Path)
		}
		if got := strings.Join(l, " & "); got != want {
			t.Errorf("%q, not %q", got, want)
		}
	}
	has(t, j, at, 0, want)
	k := j.Copy()
	for c := range k.For(owner, place(t, at), 0) {
		spoil(c.Name, c.Value, c.Path)
	}
	has(t, j, at, 0, want)
	has(t, k, at, 0, want)
	if l := string(k.Line(owner, place(t, at), 0)); l != "c=3; a=1; b=2" {
		t.Errorf("%q", l)
	}

	// A place is that of what was set, whatever became of the memory.
	puts(t, j, at, "b=4", 0)
	counts(t, j, at, 3)
	owned(t, j, "https://x.a.org")
}

// An iterator that was asked for keeps what there was, whatever is done to the jar or to what it told.
func TestForAheadOfChanges(t *testing.T) {
	const at = "http://h/"
	j := filled(t, at, named("abcdefgh")...)
	u := place(t, at)
	before, who := j.For(origin.Of(u), u, 0), j.Owners()
	for _, line := range named("ijkcd") {
		puts(t, j, at, line, 0)
	}
	puts(t, j, "http://g/", "a=1; Max-Age=1", 0)
	puts(t, j, at, "c=1; Max-Age=0", 0)
	j.Sweep(1)
	var l []string
	for c := range before {
		l = append(l, string(c.Text()))
	}
	if got := strings.Join(l, " & "); got != together("abcdefgh") {
		t.Errorf("%q", got)
	}
	if got := strings.Join(slices.Collect(who), " "); got != "http://h" {
		t.Errorf("%q", got)
	}
}

// R1: URLs, origins and cookies whose fields somebody wrote, and long ones, do no harm.
func TestAnyArguments(t *testing.T) {
	long := bytes.Repeat([]byte{'x'}, 1<<16)
	urls := []url.URL{{}, {Port: 80}, {Port: -1}, {Scheme: long, Host: long, Port: math.MaxInt, Path: long, Query: long, Fragment: long, HasQuery: true, HasFragment: true}, {Scheme: []byte("https"), Host: []byte("\x00;"), Port: math.MinInt, Path: []byte("no slash")}, place(t, "https://h/")}
	cookies := []cookie.Cookie{{}, {Age: -1}, {Age: math.MinInt}, {Age: math.MaxInt}, {Name: long, Value: long, Path: long, Age: 1}, {Name: []byte("\xff"), Value: []byte("; "), Path: []byte("x"), Domain: "\x00;", Age: -1, Secure: true}, {Domain: string(long), Age: 5}}
	moments := []int{math.MinInt, -1, 0, 1, api.MaxClock, api.MaxClock + 1, math.MaxInt}
	j := jar.New()
	for _, at := range urls {
		for _, c := range cookies {
			for _, now := range moments {
				e := j.Set(at, c, now)
				if at.Port == 0 && e != api.ErrArg || at.Port != 0 && (now < 0 || now > api.MaxClock) && e != api.ErrRange {
					t.Errorf("at %d: %d", now, int(e))
				}
				for _, u := range urls {
					j.Line(origin.Of(u), u, now)
					j.Len(origin.Of(u))
				}
				j.Copy().Sweep(now)
			}
		}
	}
	for _, now := range moments {
		j.Sweep(now)
	}
	for text := range j.Owners() {
		if text == "" {
			t.Error("an origin without a text")
		}
	}
}
