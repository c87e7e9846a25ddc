package jar_test

import (
	"math"
	"slices"
	"strconv"
	"strings"
	"testing"

	"cordon/api"
	"cordon/cookie"
	"cordon/jar"
	"cordon/origin"
	"cordon/url"
)

// place: the URL of a text, that there is; the zero value of "".
func place(t *testing.T, text string) url.URL {
	t.Helper()
	if text == "" {
		return url.URL{}
	}
	u, e := url.Parse([]byte(text))
	if e != api.OK {
		t.Fatalf("URL %.160q: %d", text, int(e))
	}
	return u
}

// parsed: the cookie of a line, that there is.
func parsed(t *testing.T, line string) cookie.Cookie {
	t.Helper()
	c, e := cookie.Parse([]byte(line))
	if e != api.OK {
		t.Fatalf("Parse(%.160q): %d", line, int(e))
	}
	return c
}

// told: how the tests write a cookie, all of its fields.
func told(c cookie.Cookie) string {
	return strings.Join([]string{string(c.Name), string(c.Value), string(c.Path), c.Domain, strconv.Itoa(c.Age), strconv.FormatBool(c.Secure)}, "|")
}

// puts: a cookie of a line may be set at a URL at a moment.
func puts(t *testing.T, j *jar.Jar, at, line string, now int) {
	t.Helper()
	if e := j.Set(place(t, at), parsed(t, line), now); e != api.OK {
		t.Errorf("%q, set at %q at %d: %d", line, at, now, int(e))
	}
}

// filled: a jar in which cookies of lines were set at a URL, at the moment 0.
func filled(t *testing.T, at string, lines ...string) *jar.Jar {
	t.Helper()
	j := jar.New()
	for _, line := range lines {
		puts(t, j, at, line, 0)
	}
	return j
}

// texts: the lines of the cookies that an origin has for a URL at a moment, " & " between each two.
func texts(j *jar.Jar, owner origin.Origin, u url.URL, now int) string {
	var l []string
	for c := range j.For(owner, u, now) {
		l = append(l, string(c.Text()))
	}
	return strings.Join(l, " & ")
}

// has: for a URL, its origin has cookies of these lines at a moment.
func has(t *testing.T, j *jar.Jar, at string, now int, want string) {
	t.Helper()
	u := place(t, at)
	if got := texts(j, origin.Of(u), u, now); got != want {
		t.Errorf("For %q at %d: %q, not %q", at, now, got, want)
	}
}

// counts: of a URL's origin there are so many.
func counts(t *testing.T, j *jar.Jar, at string, want int) {
	t.Helper()
	if n := j.Len(origin.Of(place(t, at))); n != want {
		t.Errorf("Len of %q: %d, not %d", at, n, want)
	}
}

// owners: the texts of the origins that have some, a blank between each two.
func owners(j *jar.Jar) string { return strings.Join(slices.Collect(j.Owners()), " ") }

// owned: these origins have some.
func owned(t *testing.T, j *jar.Jar, want string) {
	t.Helper()
	if got := owners(j); got != want {
		t.Errorf("Owners: %q, not %q", got, want)
	}
}

// named: lines of cookies with these names, each a letter.
func named(names string) []string {
	var l []string
	for _, name := range names {
		l = append(l, string(name)+"=1")
	}
	return l
}

// together: such lines as has and texts write them.
func together(names string) string { return strings.Join(named(names), " & ") }

// P14.1: New and Set

func TestNew(t *testing.T) {
	j := jar.New()
	if j == nil {
		t.Fatal("New: nil")
	}
	has(t, j, "http://h/", 0, "")
	counts(t, j, "http://h/", 0)
	owned(t, j, "")
	if n := j.Sweep(api.MaxClock); n != 0 {
		t.Error(n)
	}
	if l := j.Line(origin.Of(place(t, "http://h/")), place(t, "http://h/"), 0); len(l) != 0 {
		t.Errorf("%q", l)
	}
	puts(t, j, "http://h/", "a=1", 0)
	owned(t, jar.New(), "") // another one's cookies aren't its own
}

func TestSetPuts(t *testing.T) {
	j := filled(t, "https://x.a.org/p/q", "a=1", "b=2; Path=/p; Domain=a.org; Max-Age=7; Secure", "c=; Domain=x.A.org")
	has(t, j, "https://x.a.org/p/q", 6, "a=1 & b=2; Path=/p; Domain=a.org; Max-Age=7; Secure & c=; Domain=x.a.org")
	counts(t, j, "https://x.a.org/p/q", 3)
	owned(t, j, "https://x.a.org")
	u := place(t, "https://x.a.org/p/q")
	var l []string
	for c := range j.For(origin.Of(u), u, 0) {
		l = append(l, told(c))
	}
	want := []string{"a|1|||-1|false", "b|2|/p|a.org|7|true", "c|||x.a.org|-1|false"}
	if !slices.Equal(l, want) {
		t.Errorf("%q, not %q", l, want)
	}
}

func TestSetErrors(t *testing.T) {
	good, safe := "http://a.org/x", "https://a.org/x"
	for _, c := range []struct {
		at, line string
		now      int
		want     api.Errno
	}{
		{good, "a=1", 0, api.OK},
		{good, "a=1", api.MaxClock, api.OK},
		{good, "a=1; Domain=org", 0, api.OK},
		{safe, "a=1; Secure", 0, api.OK},
		{safe, "a=1; Secure; Max-Age=0", 0, api.OK},
		{"", "a=1", 0, api.ErrArg},
		{"", "a=1; Max-Age=0", 0, api.ErrArg},
		{good, "a=1", -1, api.ErrRange},
		{good, "a=1", api.MaxClock + 1, api.ErrRange},
		{good, "a=1", math.MinInt, api.ErrRange},
		{good, "a=1", math.MaxInt, api.ErrRange},
		{good, "a=1; Max-Age=0", -1, api.ErrRange},
		{good, "a=1; Secure", 0, api.ErrPolicy},
		{good, "a=1; Secure; Max-Age=0", 0, api.ErrPolicy},
		{good, "a=1; Domain=b", 0, api.ErrPolicy},
		{good, "a=1; Domain=x.a.org", api.MaxClock, api.ErrPolicy},
		{safe, "a=1; Domain=b; Secure", 0, api.ErrPolicy},

		// The first of several.
		{"", "a=1", -1, api.ErrArg},
		{"", "a=1; Secure", 0, api.ErrArg},
		{"", "a=1; Domain=b", api.MaxClock + 1, api.ErrArg},
		{good, "a=1; Secure", -1, api.ErrRange},
		{good, "a=1; Domain=b", api.MaxClock + 1, api.ErrRange},
	} {
		if e := jar.New().Set(place(t, c.at), parsed(t, c.line), c.now); e != c.want {
			t.Errorf("%q, set at %q at %d: %d, not %d", c.line, c.at, c.now, int(e), int(c.want))
		}
		var none *jar.Jar
		if e := none.Set(place(t, c.at), parsed(t, c.line), c.now); e != api.ErrArg {
			t.Errorf("%q, set at %q at %d in none: %d", c.line, c.at, c.now, int(e))
		}

		// Beside an error the jar is as it was: nothing goes, what is over neither, nor what has the same place.
		if c.want != api.OK {
			j := filled(t, good, "a=0; Max-Age=0", "a=0; Max-Age=1", "b=0; Max-Age=1", "a=0; Domain=org", "d=0")
			if e := j.Set(place(t, c.at), parsed(t, c.line), c.now); e != c.want {
				t.Errorf("%q, set at %q at %d: %d, not %d", c.line, c.at, c.now, int(e), int(c.want))
			}
			has(t, j, good, 0, "a=0; Max-Age=1 & b=0; Max-Age=1 & a=0; Domain=org & d=0")
			has(t, j, safe, 0, "")
			counts(t, j, good, 4)
			owned(t, j, "http://a.org")
		}
	}
}

// A URL whose fields somebody wrote is one, as long as it has no port.
func TestSetAtNoURL(t *testing.T) {
	at := place(t, "http://h/")
	at.Port = 0
	j := jar.New()
	if e := j.Set(at, parsed(t, "a=1"), 0); e != api.ErrArg {
		t.Error(int(e))
	}
	owned(t, j, "")
}

func TestOverAtAMoment(t *testing.T) {
	for _, c := range []struct {
		age     string
		at, now int
		over    bool
	}{
		{"", 0, 0, false}, {"", 0, api.MaxClock, false}, {"", 5, 4, false}, {"", api.MaxClock, api.MaxClock, false}, {"", 0, math.MaxInt, false}, {"", 0, math.MinInt, false},
		{"; Max-Age=1", 0, 0, false}, {"; Max-Age=1", 0, 1, true}, {"; Max-Age=1", 0, 2, true}, {"; Max-Age=1", 0, -1, false},
		{"; Max-Age=3", 5, 7, false}, {"; Max-Age=3", 5, 8, true}, {"; Max-Age=3", 5, 9, true}, {"; Max-Age=3", 5, 5, false}, {"; Max-Age=3", 5, 3, false}, {"; Max-Age=3", 5, 0, false},
		{"; Max-Age=1073741824", 0, api.MaxAge - 1, false}, {"; Max-Age=1073741824", 0, api.MaxAge, true}, {"; Max-Age=1073741824", 0, api.MaxClock, true},
		{"; Max-Age=1", api.MaxClock, api.MaxClock, false}, {"; Max-Age=1", api.MaxClock - 1, api.MaxClock, true}, {"; Max-Age=2", api.MaxClock - 1, api.MaxClock, false},
		{"; Max-Age=1073741824", api.MaxClock, api.MaxClock + api.MaxAge - 1, false}, {"; Max-Age=1073741824", api.MaxClock, api.MaxClock + api.MaxAge, true},
		{"; Max-Age=1", api.MaxClock, math.MaxInt, true}, {"; Max-Age=1", api.MaxClock, math.MinInt, false}, {"; Max-Age=1", 0, math.MinInt, false},
	} {
		const at = "http://h/"
		j := jar.New()
		puts(t, j, at, "a=1"+c.age, c.at)
		want, gone := "a=1"+c.age, 0
		if c.over {
			want, gone = "", 1
		}
		has(t, j, at, c.now, want)
		if line := string(j.Line(origin.Of(place(t, at)), place(t, at), c.now)); line == "" != c.over {
			t.Errorf("%q set at %d, Line at %d: %q", c.age, c.at, c.now, line)
		}
		counts(t, j, at, 1)
		if c.now >= 0 && c.now <= api.MaxClock { // Set takes it away, too
			k := j.Copy()
			puts(t, k, at, "b=1", c.now)
			counts(t, k, at, 2-gone)
		}
		if n := j.Sweep(c.now); n != gone {
			t.Errorf("%q set at %d, Sweep at %d: %d, not %d", c.age, c.at, c.now, n, gone)
		}
		counts(t, j, at, 1-gone)
	}
}

// Ages that no line tells count as the chapter says, too.
func TestAgesThatSomebodyWrote(t *testing.T) {
	at := place(t, "http://h/")
	for _, c := range []struct {
		age, set, now int
		over          bool
	}{
		{math.MaxInt, 0, math.MaxInt - 1, false}, {math.MaxInt, 0, math.MaxInt, true}, {math.MaxInt, 1, math.MaxInt, false}, {math.MaxInt, api.MaxClock, math.MinInt, false},
		{-2, 5, 5, true}, {-2, 5, 3, true}, {-2, 5, 2, false}, {math.MinInt, 0, math.MinInt, true}, {math.MinInt, 1, math.MinInt, false}, {math.MinInt, api.MaxClock, math.MaxInt, true},
	} {
		j := jar.New()
		if e := j.Set(at, cookie.Cookie{Name: []byte("a"), Age: c.age}, c.set); e != api.OK {
			t.Error(int(e))
		}
		counts(t, j, "http://h/", 1)
		if got := texts(j, origin.Of(at), at, c.now) == ""; got != c.over {
			t.Errorf("%d set at %d, over at %d: %t", c.age, c.set, c.now, got)
		}
	}
}

func TestSetSweepsItsOrigin(t *testing.T) {
	j := filled(t, "http://h/", "a=1; Max-Age=5", "b=1; Max-Age=6", "c=1", "d=1; Max-Age=4")
	puts(t, j, "http://k/", "a=1; Max-Age=5", 0)
	puts(t, j, "http://h/", "e=1", 5)
	counts(t, j, "http://h/", 3)
	has(t, j, "http://h/", 0, "b=1; Max-Age=6 & c=1 & e=1") // what is over went, though it weren't over then
	counts(t, j, "http://k/", 1)                            // another origin's doesn't

	// It goes, too, where nothing is put, at any path and any host of the origin's.
	puts(t, j, "http://h/x", "y=1; Max-Age=0", 6)
	has(t, j, "http://h/", 0, "c=1 & e=1")
	counts(t, j, "http://k/", 1)
	puts(t, j, "http://k/", "y=1; Max-Age=0", 5)
	counts(t, j, "http://k/", 0)
	owned(t, j, "http://h")
}

// hasDeep: a URL's origin has the cookie of a line alone, asked for at a path that goes on behind all that the tests tell.
func hasDeep(t *testing.T, j *jar.Jar, at, line string) {
	t.Helper()
	u := place(t, at)
	deep, e := u.Resolve([]byte("/x/y/z"))
	if got := texts(j, origin.Of(u), deep, 0); e != api.OK || got != string(parsed(t, line).Text()) {
		t.Errorf("of %q: %q, not %q alone", at, got, line)
	}
}

func TestSetInItsPlace(t *testing.T) {
	for _, c := range []struct{ firstAt, first, at, line string }{
		// Those that have one place.
		{"http://a.org/", "a=1", "http://a.org/", "a=1"},
		{"http://a.org/", "a=1", "http://a.org/", "a=2"},
		{"https://a.org/", "a=1", "https://a.org/", "a=1; Secure"},
		{"https://a.org/", "a=1; Secure", "https://a.org/", "a=1"},
		{"http://a.org/", "a=1; Max-Age=7", "http://a.org/", "a=1"},
		{"http://a.org/", "a=1", "http://a.org/", "a=1; Max-Age=7"},
		{"http://a.org/x/y", "a=1", "http://a.org/x/z?q#f", "a=2"},
		{"http://a.org/x/", "a=1", "http://a.org/z", "a=2; Path=/x"},
		{"http://a.org/", "a=1; Path=/x", "http://a.org/x/y", "a=2"},
		{"http://a.org/", "a=1", "http://a.org/x", "a=2; Path=/"},
		{"http://a.org/", "a=1; Path=/x", "http://a.org/y", "a=2; Path=/x"},
		{"http://a.org/x", "a=1", "http://a.org:80/y", "a=2"},
		{"http://x.a.org/", "a=1; Domain=a.org", "http://x.a.org/", "a=2; Domain=A.Org"},
	} {
		j := filled(t, c.firstAt, c.first)
		puts(t, j, c.at, c.line, 0)
		counts(t, j, c.firstAt, 1)
		hasDeep(t, j, c.at, c.line)
		puts(t, j, c.at, c.line+"; Max-Age=0", 0) // goes, and nothing is put
		counts(t, j, c.firstAt, 0)
		owned(t, j, "")
	}
	for _, c := range []struct{ firstAt, first, at, line string }{
		// Those that haven't.
		{"http://a.org/", "a=1", "http://a.org/", "b=1"},
		{"http://a.org/", "a=1", "http://a.org/", "A=1"},
		{"http://a.org/", "a=1", "http://a.org/", "a=1; Domain=a.org"},
		{"http://x.a.org/", "a=1; Domain=a.org", "http://x.a.org/", "a=1; Domain=x.a.org"},
		{"http://a.org/", "a=1", "http://a.org/x/y", "a=1"},
		{"http://a.org/", "a=1", "http://a.org/", "a=1; Path=/x"},
		{"http://a.org/", "a=1; Path=/x", "http://a.org/", "a=1; Path=/x/"},
		{"http://a.org/", "a=1", "https://a.org/", "a=1"},
		{"http://a.org/", "a=1", "http://a.org:81/", "a=1"},
		{"http://x.a.org/", "a=1; Domain=a.org", "http://a.org/", "a=1; Domain=a.org"},
	} {
		j := filled(t, c.firstAt, c.first)
		puts(t, j, c.at, c.line+"; Max-Age=0", 0) // nothing of its place is there: nothing goes
		hasDeep(t, j, c.firstAt, c.first)
		puts(t, j, c.at, c.line, 0)
		if origin.Of(place(t, c.firstAt)) == origin.Of(place(t, c.at)) {
			counts(t, j, c.at, 2)
		} else {
			hasDeep(t, j, c.firstAt, c.first)
			hasDeep(t, j, c.at, c.line)
		}
	}
}

// What has its place taken is the last that was set.
func TestSetAgainIsSetLast(t *testing.T) {
	j := filled(t, "http://h/", named("abc")...)
	puts(t, j, "http://h/", "a=2", 0)
	has(t, j, "http://h/", 0, "b=1 & c=1 & a=2")
	puts(t, j, "http://h/", "c=2", 0)
	has(t, j, "http://h/", 0, "b=1 & a=2 & c=2")
	puts(t, j, "http://h/", "b=1; Max-Age=0", 0)
	has(t, j, "http://h/", 0, "a=2 & c=2")
}

func TestMaxCookies(t *testing.T) {
	const at = "http://h/"
	full := func() *jar.Jar {
		j := filled(t, at, named("abcdefgh")...)
		for _, line := range named("abcdefgh") {
			puts(t, j, "http://k/", line, 0)
		}
		return j
	}
	j := full()
	counts(t, j, at, api.MaxCookies)
	has(t, j, at, 0, together("abcdefgh"))
	for _, c := range []struct{ line, want string }{
		{"i=1", together("bcdefghi")},                               // one more: the eldest goes
		{"a=1", together("bcdefgha")},                               // one of the same place goes, whichever
		{"d=1", together("abcefghd")},                               //
		{"h=1", together("abcdefgh")},                               //
		{"d=1; Max-Age=0", together("abcefgh")},                     // and nothing is put
		{"i=1; Max-Age=0", together("abcdefgh")},                    // nothing goes
		{"a=1; Domain=h", together("bcdefgh") + " & a=1; Domain=h"}, // another place
	} {
		j := full()
		puts(t, j, at, c.line, 0)
		has(t, j, at, 0, c.want)
		has(t, j, "http://k/", 0, together("abcdefgh")) // nothing of another origin goes
	}

	// Several more, and at any path of the origin's.
	for _, line := range named("ijk") {
		puts(t, j, "http://h/x/y", line, 0)
	}
	counts(t, j, at, api.MaxCookies)
	has(t, j, "http://h/x", 0, "i=1 & j=1 & k=1 & "+together("defgh"))
	has(t, j, at, 0, together("defgh"))

	// What is over goes first, whatever was set ahead of it.
	j = filled(t, at, "a=1", "b=1", "c=1; Max-Age=5", "d=1", "e=1; Max-Age=6", "f=1", "g=1; Max-Age=5", "h=1")
	k := j.Copy()
	puts(t, j, at, "i=1", 4)
	has(t, j, at, 4, "b=1 & c=1; Max-Age=5 & d=1 & e=1; Max-Age=6 & f=1 & g=1; Max-Age=5 & h=1 & i=1")
	puts(t, k, at, "i=1", 5)
	has(t, k, at, 5, "a=1 & b=1 & d=1 & e=1; Max-Age=6 & f=1 & h=1 & i=1")
	puts(t, k, at, "j=1", 5)
	counts(t, k, at, api.MaxCookies)
	puts(t, k, at, "k=1", 5)
	has(t, k, at, 5, "b=1 & d=1 & e=1; Max-Age=6 & f=1 & h=1 & i=1 & j=1 & k=1")
}

// The eldest is the one that was set first, whatever moments were told.
func TestEldestByItsTurn(t *testing.T) {
	j := jar.New()
	for i, line := range named("abcdefghi") {
		puts(t, j, "http://h/", line, 100-i)
	}
	has(t, j, "http://h/", 0, together("bcdefghi"))
}

// P14.2

func TestForInOrder(t *testing.T) {
	j := jar.New()
	for _, c := range []struct{ at, line string }{
		{"http://h/", "a=1"}, {"http://h/x/y/z", "b=1"}, {"http://h/", "c=1; Path=/x"}, {"http://h/", "d=1; Path=/x/"}, {"http://h/x/y", "e=1"}, {"http://h/", "f=1; Path=/x/y"}, {"http://h/x", "g=1"}, {"http://h/", "h=1; Path=/y"},
	} {
		puts(t, j, c.at, c.line, 0)
	}
	for at, want := range map[string]string{
		"http://h/":          "a=1 & g=1",
		"http://h/z":         "a=1 & g=1",
		"http://h/x":         "c=1; Path=/x & e=1 & a=1 & g=1",
		"http://h/xy":        "a=1 & g=1",
		"http://h/x/":        "d=1; Path=/x/ & c=1; Path=/x & e=1 & a=1 & g=1",
		"http://h/x/z":       "d=1; Path=/x/ & c=1; Path=/x & e=1 & a=1 & g=1",
		"http://h/x/y":       "b=1 & f=1; Path=/x/y & d=1; Path=/x/ & c=1; Path=/x & e=1 & a=1 & g=1",
		"http://h/x/y/?q#f":  "b=1 & f=1; Path=/x/y & d=1; Path=/x/ & c=1; Path=/x & e=1 & a=1 & g=1",
		"http://h/y/x/y/z":   "h=1; Path=/y & a=1 & g=1",
		"http://h/x/y/z/v/w": "b=1 & f=1; Path=/x/y & d=1; Path=/x/ & c=1; Path=/x & e=1 & a=1 & g=1",
	} {
		has(t, j, at, 0, want)
	}
}

// The cookies of one origin may be meant for URLs of another one, and are told where that origin is asked for alone.
func TestForAnOwner(t *testing.T) {
	j := jar.New()
	puts(t, j, "http://x.a.org/", "a=1; Domain=a.org", 0)
	puts(t, j, "http://x.a.org/", "b=1", 0)
	puts(t, j, "http://y.a.org/", "c=1; Domain=a.org", 0)
	puts(t, j, "https://x.a.org/", "d=1; Domain=a.org; Secure", 0)
	puts(t, j, "https://x.a.org/", "e=1", 0)
	puts(t, j, "http://a.org:81/", "f=1", 0)
	for _, c := range []struct{ owner, u, want string }{
		{"http://x.a.org/", "http://x.a.org/", "a=1; Domain=a.org & b=1"},
		{"http://x.a.org/p?q#f", "http://x.a.org/", "a=1; Domain=a.org & b=1"},
		{"http://x.a.org/", "https://x.a.org:82/", "a=1; Domain=a.org & b=1"},
		{"http://x.a.org/", "http://y.a.org/", "a=1; Domain=a.org"},
		{"http://x.a.org/", "http://a.org/", "a=1; Domain=a.org"},
		{"http://x.a.org/", "http://b/", ""},
		{"http://x.a.org/", "http://org/", ""},
		{"http://y.a.org/", "http://x.a.org/", "c=1; Domain=a.org"},
		{"https://x.a.org/", "http://x.a.org/", "e=1"},
		{"https://x.a.org/", "https://x.a.org/", "d=1; Domain=a.org; Secure & e=1"},
		{"https://x.a.org/", "https://y.a.org/", "d=1; Domain=a.org; Secure"},
		{"https://x.a.org/", "http://y.a.org/", ""},
		{"http://a.org:81/", "http://a.org/", "f=1"},
		{"http://a.org/", "http://a.org:81/", ""},
		{"http://a.org/", "http://a.org/", ""},
		{"http://b/", "http://x.a.org/", ""},
		{"http://x.a.org/", "", ""},
		{"", "http://x.a.org/", ""},
		{"", "", ""},
	} {
		owner, u := origin.Of(place(t, c.owner)), place(t, c.u)
		if got := texts(j, owner, u, 0); got != c.want {
			t.Errorf("For %q, of %q: %q, not %q", c.u, c.owner, got, c.want)
		}
	}

	// Owners that have none, though their texts are like those that have.
	u := place(t, "http://x.a.org/")
	for _, owner := range []origin.Origin{
		{}, {Closed: 1}, {Closed: -1}, {Scheme: "http", Host: "x.a.org", Port: 80, Closed: 1}, {Scheme: "http", Host: "X.a.org", Port: 80}, {Scheme: "http", Host: "x.a.org"}, {Host: "x.a.org", Port: 80},
		{Scheme: "http", Host: "x.a.org", Port: -80}, {Scheme: "http", Host: "x.a.org", Port: 443}, {Scheme: "https", Host: "x.a.org", Port: 80}, {Scheme: "http", Host: "a.org:81", Port: 80},
	} {
		if got := texts(j, owner, u, 0) + string(j.Line(owner, u, 0)); got != "" || j.Len(owner) != 0 {
			t.Errorf("of %q: %q, %d", owner.Text(), got, j.Len(owner))
		}
	}
}

func TestForWhatIsOver(t *testing.T) {
	j := filled(t, "http://h/", "a=1; Max-Age=2", "b=1", "c=1; Max-Age=1", "d=1; Max-Age=3")
	for now, want := range []string{
		"a=1; Max-Age=2 & b=1 & c=1; Max-Age=1 & d=1; Max-Age=3", "a=1; Max-Age=2 & b=1 & d=1; Max-Age=3", "b=1 & d=1; Max-Age=3", "b=1",
	} {
		has(t, j, "http://h/", now, want)
		counts(t, j, "http://h/", 4) // what is over is there till it goes
	}
	has(t, j, "http://h/", 0, "a=1; Max-Age=2 & b=1 & c=1; Max-Age=1 & d=1; Max-Age=3")
}

func TestLine(t *testing.T) {
	j := jar.New()
	line := func(at string, now int, want string) {
		t.Helper()
		u := place(t, at)
		if got := string(j.Line(origin.Of(u), u, now)); got != want {
			t.Errorf("Line for %q at %d: %q, not %q", at, now, got, want)
		}
	}
	line("http://h/", 0, "")
	puts(t, j, "http://h/", "a=1; Max-Age=7", 0)
	line("http://h/", 0, "a=1")
	line("http://h/", 7, "")
	line("http://k/", 0, "")
	puts(t, j, "http://h/", "b=; Domain=h", 0)
	line("http://h/", 0, "a=1; b=")
	line("http://h/", 7, "b=")
	puts(t, j, "http://h/", "cc='=x'; Path=/x", 0)
	line("http://h/", 0, "a=1; b=")
	line("http://h/x/y", 0, "cc='=x'; a=1; b=")
	line("http://h/x/y", 8, "cc='=x'; b=")
	line("https://h/x/y", 0, "") // of another origin
	u := place(t, "https://h/x")
	if got := string(j.Line(origin.Of(place(t, "http://h/")), u, 7)); got != "cc='=x'; b=" {
		t.Errorf("%q", got)
	}
	if got := j.Line(origin.Of(place(t, "http://h/")), url.URL{}, 7); len(got) != 0 {
		t.Errorf("%q", got)
	}
}

func TestSweep(t *testing.T) {
	full := func() *jar.Jar {
		j := filled(t, "http://h/", "a=1; Max-Age=5", "b=1", "c=1; Max-Age=6", "d=1; Max-Age=5")
		puts(t, j, "http://k/", "a=1; Max-Age=5", 0)
		puts(t, j, "http://k/", "b=1; Max-Age=5", 1)
		puts(t, j, "http://l/", "a=1", 0)
		puts(t, j, "http://m/", "a=1; Max-Age=7", 0)
		return j
	}
	for _, c := range []struct {
		now, gone, h, k, m int
		owners             string
	}{
		{math.MinInt, 0, 4, 2, 1, "http://h http://k http://l http://m"},
		{-1, 0, 4, 2, 1, "http://h http://k http://l http://m"},
		{0, 0, 4, 2, 1, "http://h http://k http://l http://m"},
		{4, 0, 4, 2, 1, "http://h http://k http://l http://m"},
		{5, 3, 2, 1, 1, "http://h http://k http://l http://m"},
		{6, 5, 1, 0, 1, "http://h http://l http://m"},
		{7, 6, 1, 0, 0, "http://h http://l"},
		{api.MaxClock, 6, 1, 0, 0, "http://h http://l"},
		{math.MaxInt, 6, 1, 0, 0, "http://h http://l"},
	} {
		j := full()
		if n := j.Sweep(c.now); n != c.gone {
			t.Errorf("Sweep at %d: %d, not %d", c.now, n, c.gone)
		}
		counts(t, j, "http://h/", c.h)
		counts(t, j, "http://k/", c.k)
		counts(t, j, "http://l/", 1)
		counts(t, j, "http://m/", c.m)
		owned(t, j, c.owners)
		if n := j.Sweep(c.now); n != 0 {
			t.Errorf("Sweep at %d once more: %d", c.now, n)
		}
	}
	j := full()
	j.Sweep(5)
	has(t, j, "http://h/", 0, "b=1 & c=1; Max-Age=6")
	has(t, j, "http://k/", 0, "b=1; Max-Age=5")

	// All go: the jar is one of nothing, and takes more.
	j = filled(t, "http://h/", "a=1; Max-Age=1", "b=1; Max-Age=2")
	if n := j.Sweep(2); n != 2 {
		t.Error(n)
	}
	owned(t, j, "")
	puts(t, j, "http://h/", "b=2", 0)
	has(t, j, "http://h/", 0, "b=2")
}

func TestOwners(t *testing.T) {
	j := jar.New()
	owned(t, j, "")
	for _, at := range []string{"http://h:81/x", "https://h/", "http://h/y", "http://h.org/", "http://h/", "http://h:8/", "http://1.2.3.4/", "https://a/", "http://h-a/", "https://h:444/"} {
		puts(t, j, at, "a=1; Max-Age=9", 0)
	}
	owned(t, j, "http://1.2.3.4 http://h http://h-a http://h.org http://h:8 http://h:81 https://a https://h https://h:444")

	// One all of whose cookies went isn't told, by whichever way they went.
	puts(t, j, "http://h/", "a=1; Max-Age=0", 0)
	puts(t, j, "http://h/y", "b=1; Max-Age=0", 0)
	puts(t, j, "https://a/", "b=1; Max-Age=0", 9)
	owned(t, j, "http://1.2.3.4 http://h-a http://h.org http://h:8 http://h:81 https://h https://h:444")
	puts(t, j, "https://h/x", "a=1", 0)
	if n := j.Sweep(9); n != 6 {
		t.Error(n)
	}
	owned(t, j, "https://h")
	puts(t, j, "http://k/", "b=1; Max-Age=0", 0) // nothing is put
	owned(t, j, "https://h")
}

// Rising is each above the one ahead, also where fields that somebody wrote have one text.
func TestOwnersOfOneText(t *testing.T) {
	j := filled(t, "http://h:81/", "a=1")
	at := url.URL{Scheme: []byte("http"), Host: []byte("h:81"), Port: 80, Path: []byte("/")}
	if e := j.Set(at, parsed(t, "a=2"), 0); e != api.OK {
		t.Error(int(e))
	}
	owned(t, j, "http://h:81")
	has(t, j, "http://h:81/", 0, "a=1")
	if l := string(j.Line(origin.Of(at), at, 0)); l != "a=2" {
		t.Errorf("%q", l)
	}
}

func TestCopy(t *testing.T) {
	const at = "http://h/"
	first := filled(t, at, named("abcdefgh")...)
	puts(t, first, "http://k/", "a=1; Max-Age=5", 0)
	second := first.Copy()
	third := second.Copy()
	if second == first || third == second {
		t.Fatal("Copy: the same one")
	}
	for _, j := range []*jar.Jar{first, second, third} {
		has(t, j, at, 0, together("abcdefgh"))
		has(t, j, "http://k/", 0, "a=1; Max-Age=5")
		owned(t, j, "http://h http://k")
	}

	// A copy that is changed.
	puts(t, second, at, "i=1", 0)
	puts(t, second, at, "d=1; Max-Age=0", 0)
	puts(t, second, "http://l/", "a=1", 0)
	second.Sweep(5)
	has(t, second, at, 0, together("bcefghi"))
	owned(t, second, "http://h http://l")

	// And the first one, behind it: both put one where the other did.
	puts(t, first, at, "j=1", 0)
	puts(t, first, at, "k=1", 0)
	has(t, first, at, 0, together("cdefghjk"))
	puts(t, first, "http://k/", "b=1", 0)
	has(t, second, at, 0, together("bcefghi"))
	owned(t, first, "http://h http://k")
	puts(t, second, at, "l=1", 0)
	puts(t, second, at, "m=1", 0)
	has(t, second, at, 0, together("cefghilm"))
	has(t, first, at, 0, together("cdefghjk"))

	has(t, third, at, 0, together("abcdefgh"))
	has(t, third, "http://k/", 0, "a=1; Max-Age=5")
	owned(t, third, "http://h http://k")

	// One of nothing.
	empty := jar.New()
	other := empty.Copy()
	puts(t, other, at, "a=1", 0)
	owned(t, empty, "")
	puts(t, empty, at, "b=1", 0)
	has(t, other, at, 0, "a=1")
}

func TestNilJar(t *testing.T) {
	var j *jar.Jar
	u := place(t, "http://h/")
	owner := origin.Of(u)
	if e := j.Set(u, parsed(t, "a=1"), 0); e != api.ErrArg {
		t.Errorf("Set: %d", int(e))
	}
	for range 2 {
		for c := range j.For(owner, u, 0) {
			t.Errorf("For: %q", told(c))
		}
		for text := range j.Owners() {
			t.Errorf("Owners: %q", text)
		}
	}
	if l := j.Line(owner, u, 0); l != nil {
		t.Errorf("Line: %q", l)
	}
	if n := j.Sweep(0); n != 0 {
		t.Errorf("Sweep: %d", n)
	}
	if n := j.Len(owner); n != 0 {
		t.Errorf("Len: %d", n)
	}
	if j.Copy() != nil {
		t.Error("Copy: there is one")
	}
}

// The zero values of a URL, of an origin and of a cookie.
func TestZeroValues(t *testing.T) {
	const at = "http://h/x/y"
	j := filled(t, at, "a=1; Path=/", "b=1; Path=/x")
	if e := j.Set(url.URL{}, cookie.Cookie{}, 0); e != api.ErrArg {
		t.Error(int(e))
	}
	if e := j.Set(place(t, at), cookie.Cookie{}, 0); e != api.OK { // of the Age 0: nothing is put
		t.Error(int(e))
	}
	has(t, j, at, 0, "b=1; Path=/x & a=1; Path=/")
	if e := j.Set(place(t, at), cookie.Cookie{Age: -1}, 0); e != api.OK {
		t.Error(int(e))
	}
	has(t, j, at, 0, "b=1; Path=/x & = & a=1; Path=/")
	if e := j.Set(place(t, at), cookie.Cookie{}, 0); e != api.OK { // it takes that of its place away
		t.Error(int(e))
	}
	has(t, j, at, 0, "b=1; Path=/x & a=1; Path=/")
	var none jar.Jar
	if e := none.Copy().Set(place(t, at), parsed(t, "a=1"), 0); e != api.OK || none.Sweep(0) != 0 || none.Len(origin.Origin{}) != 0 {
		t.Error(int(e))
	}
}

// P14.3

// The iterators tell the same each time, and may be left ahead of their ends.
func TestIterators(t *testing.T) {
	const at = "http://h/"
	j := filled(t, at, named("abc")...)
	puts(t, j, "http://k/", "a=1", 0)
	puts(t, j, "http://l/", "a=1", 0)
	u := place(t, at)
	cookies, texts := j.For(origin.Of(u), u, 0), j.Owners()
	for _, most := range []int{1, 3, 2, 9, 3} {
		var names, who []string
		for c := range cookies {
			if names = append(names, string(c.Name)); len(names) == most {
				break
			}
		}
		for text := range texts {
			if who = append(who, text); len(who) == most {
				break
			}
		}
		n := min(most, 3)
		if !slices.Equal(names, []string{"a", "b", "c"}[:n]) || !slices.Equal(who, []string{"http://h", "http://k", "http://l"}[:n]) {
			t.Errorf("of %d: %q, %q", most, names, who)
		}
	}

	// One within another, and a jar that is changed while it is gone through.
	var all []string
	for c := range cookies {
		for text := range texts {
			all = append(all, string(c.Name)+text)
			puts(t, j, at, string(c.Name)+"=2; Max-Age=0", 0)
			puts(t, j, at, "z=2; Path=/z/"+strconv.Itoa(len(all)), 0)
			j.Sweep(1)
		}
	}
	want := []string{"ahttp://h", "ahttp://k", "ahttp://l", "bhttp://h", "bhttp://k", "bhttp://l", "chttp://h", "chttp://k", "chttp://l"}
	if !slices.Equal(all, want) {
		t.Errorf("%q", all)
	}
	has(t, j, at, 0, "")
	counts(t, j, at, api.MaxCookies)
}
