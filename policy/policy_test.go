package policy_test

import (
	"slices"
	"strconv"
	"strings"
	"testing"

	"cordon/api"
	"cordon/formula"
	"cordon/header"
	"cordon/label"
	"cordon/origin"
	"cordon/policy"
)

// at: the origin of a text, that there is; the zero value of "".
func at(t *testing.T, text string) origin.Origin {
	t.Helper()
	if text == "" {
		return origin.Origin{}
	}
	o, e := origin.Parse([]byte(text))
	if e != api.OK {
		t.Fatalf("origin %.80q: %d", text, int(e))
	}
	return o
}

// listed: the list of a text, that there is.
func listed(t *testing.T, text string) policy.Sources {
	t.Helper()
	s, e := policy.ParseSources([]byte(text))
	if e != api.OK {
		t.Fatalf("ParseSources(%.120q): %d", text, int(e))
	}
	return s
}

// lists: a text is parsed to a list of this text, that is parsed to such a one again.
func lists(t *testing.T, in, want string) {
	t.Helper()
	s, e := policy.ParseSources([]byte(in))
	if e != api.OK || s.Text() != want {
		t.Errorf("ParseSources(%.200q): %.200q, %d, not %.200q", in, s.Text(), int(e), want)
	}
	again, e := policy.ParseSources([]byte(s.Text()))
	if e != api.OK || again.Text() != want {
		t.Errorf("%.200q, parsed again: %.200q, %d", want, again.Text(), int(e))
	}
}

// refuses: a text isn't parsed to a list, with this error and "none" beside it.
func refuses(t *testing.T, in string, want api.Errno) {
	t.Helper()
	s, e := policy.ParseSources([]byte(in))
	if e != want || !reflectsNone(t, s) {
		t.Errorf("ParseSources(%.200q): %.200q, %d, not %d", in, s.Text(), int(e), int(want))
	}
}

// reflectsNone: is a list that of none, in its text and in what it allows?
func reflectsNone(t *testing.T, s policy.Sources) bool {
	t.Helper()
	o, c := at(t, "http://x.a.org"), at(t, "closed:7")
	return s.Text() == "none" && !s.Allows(o, o) && !s.Allows(c, c) && !s.Allows(origin.Origin{}, origin.Origin{})
}

// numbered: so many sources, one unlike the other.
func numbered(n int) string {
	var l []string
	for i := range n {
		l = append(l, "http://p"+strconv.Itoa(i))
	}
	return strings.Join(l, " ")
}

// block: the header of lines, that there is.
func block(t *testing.T, lines ...string) header.Header {
	t.Helper()
	h, _, e := header.Parse([]byte(strings.Join(lines, "\n")))
	if e != api.OK {
		t.Fatalf("header %.200q: %d", lines, int(e))
	}
	return h
}

// said: how the tests write a policy.
func said(p policy.Policy) string {
	return strings.Join([]string{p.Data.Text(), p.Context.Text(), p.Clearance.Text(), p.Privilege.Text(), p.Connect.Text(), p.Frame.Text()}, ", ")
}

// zero: how the tests write the zero value of a policy.
const zero = "always ; always, always ; always, always ; always, always, none, none"

// says: the policy of some lines, for an origin, is one that the tests write so.
func says(t *testing.T, o, want string, lines ...string) {
	t.Helper()
	p, e := policy.Of(block(t, lines...), at(t, o))
	if e != api.OK || said(p) != want {
		t.Errorf("Of %.300q for %q: %.300q, %d, not %.300q", lines, o, said(p), int(e), want)
	}
}

// denies: there is no policy of some lines, for an origin, with this error and the zero value beside it.
func denies(t *testing.T, o string, want api.Errno, lines ...string) {
	t.Helper()
	p, e := policy.Of(block(t, lines...), at(t, o))
	if e != want || said(p) != zero {
		t.Errorf("Of %.300q for %q: %.300q, %d, not %d", lines, o, said(p), int(e), int(want))
	}
}

// P12.1: ParseSources and Text

func TestParseSourcesOfEachKind(t *testing.T) {
	for in, want := range map[string]string{
		"none": "none", "self": "self", "*": "*",

		// Origins, in their canon.
		"http://a": "http://a", "https://a.b.org": "https://a.b.org", "http://1.2.3.4": "http://1.2.3.4", "http://a:8080": "http://a:8080", "https://a:80": "https://a:80", "http://a:443": "http://a:443",
		"http://a:80": "http://a", "https://a:443": "https://a", "HTTP://A": "http://a", "hTTpS://X-1.a.ORG:443": "https://x-1.a.org", "HTTPS://A.Org:8443": "https://a.org:8443",
		"http://none": "http://none", "http://self": "http://self", "http://SELF": "http://self",
		"closed:1": "closed:1", "closed:7": "closed:7", "closed:1099511627776": "closed:1099511627776",

		// Hosts, in their canon.
		"*.a": "*.a", "*.a.org": "*.a.org", "*.A-b.Org": "*.a-b.org", "*.1a": "", "*.1.a": "*.1.a", "*.1.2.3.a": "*.1.2.3.a", "*.1.2.3.4.a": "*.1.2.3.4.a", "*.none": "*.none", "*.self": "*.self", "*.http": "*.http",
		"*." + strings.Repeat("a", api.MaxPart): "*." + strings.Repeat("a", api.MaxPart), "*.a.b.c.d.e.f.g.h": "*.a.b.c.d.e.f.g.h",
	} {
		if want == "" {
			refuses(t, in, api.ErrForm)
			continue
		}
		for _, about := range []string{"", " ", "\t", " \t  "} {
			lists(t, about+in, want)
			lists(t, in+about, want)
			lists(t, about+in+about, want)
		}
	}
}

func TestParseSourcesInOrder(t *testing.T) {
	for in, want := range map[string]string{
		"self *.a.org": "self *.a.org", "*.a.org self": "*.a.org self", "* self": "* self", "self *": "self *",
		"http://b http://a": "http://b http://a", "http://a  \t http://B:80": "http://a http://b", "\tself\t*\thttp://a\t": "self * http://a",
		"self self": "self self", "* *": "* *", "http://a HTTP://A:80 http://a": "http://a http://a http://a", // each stands as often as it stood
		"  closed:7   *.a   self *.b  https://c:1 ": "closed:7 *.a self *.b https://c:1",
	} {
		lists(t, in, want)
	}
}

func TestParseSourcesOfNothing(t *testing.T) {
	for _, in := range []string{"", " ", "\t", "  ", " \t ", strings.Repeat(" ", 10000)} {
		refuses(t, in, api.ErrForm)
	}
	s, e := policy.ParseSources(nil)
	if e != api.ErrForm || !reflectsNone(t, s) {
		t.Errorf("ParseSources of nil: %q, %d", s.Text(), int(e))
	}
}

// wrongSources are pieces that are no sources.
func wrongSources() []string {
	return []string{
		// Neither one nor the other, or one with more about.
		"x", "NONE", "None", "Self", "SELF", "selfs", "xself", "nones", "'self'", "\"none\"", "self;", "self,", "none;", "none,none", "**", "*self", "self*", "self,*", "always", "never", "\x00", "\xff", "\u00e9", "self\n", "\nself", "none\n", "\rnone", "self\r", "*\n", "self\nself", "self\v*", "self\u00a0*", "\ufeffself",

		// No origin.
		"a", "a.org", "//a", "http:", "http:/a", "http://", "http://:80", "://a", "ftp://a", "data:x", "about:blank", "http://a/", "http://a/x", "http://a?", "http://a?q", "http://a#", "http://a#f", "https://a:443/",
		"http://a:", "http://a:0", "http://a:080", "http://a:65536", "http://a:x", "http://a:80:80", "http://a,http://b", "http://a_b", "http://-a", "http://a..b", "http://a.", "http://.a", "http://1.2.3", "http://1.2.3.256", "http://u@a", "http://*.a", "http://*", "*://a", "http://[::1]", "http://a;", "http://a\n", "http://a\x00",
		"http://" + strings.Repeat("a", api.MaxPart+1), "http://a.b.c.d.e.f.g.h.i", "http://" + strings.Repeat(strings.Repeat("a", 63)+".", 4) + "a", "http://a/" + strings.Repeat("x", api.MaxText),
		"closed", "closed:", "closed:0", "closed:07", "closed:-1", "closed:+1", "closed:x", "closed:1.5", "closed:1099511627777", "closed:7x", "closed:7:7", "CLOSED:7", "Closed:7", "closed://a",

		// No "*." and a host.
		"*.", "*..", "*.*", "*.*.a", ".a", "*a", "*a.org", "*.-a", "*.a-", "*.a.", "*..a", "*.a..b", "*.1.2.3", "*.3.4", "*.4", "*.1", "*.a:80", "*.a/", "http://*.a.org", "*.a_b", "*.a*", "*.http://a", "*.a,*.b", "*.a\n", "*.\x00", "x*.a", "**.a", "*.256.0.0.1",
		"*.1.2.3.4", "*.0.0.0.0", "*.255.255.255.255", // addresses
		"*." + strings.Repeat("a", api.MaxPart+1), "*.a.b.c.d.e.f.g.h.i", "*." + strings.Repeat(strings.Repeat("a", 63)+".", 4) + "a", "*." + strings.Repeat("a", api.MaxHost+1), "*." + strings.Repeat("a", api.MaxText+1),
	}
}

func TestParseSourcesErrForm(t *testing.T) {
	most := numbered(api.MaxSources)
	for _, wrong := range wrongSources() {
		refuses(t, wrong, api.ErrForm)
		refuses(t, " "+wrong+"\t", api.ErrForm)
		refuses(t, "self "+wrong, api.ErrForm)
		refuses(t, wrong+" self", api.ErrForm)
		refuses(t, "* "+wrong+" http://a", api.ErrForm)
		refuses(t, "none "+wrong, api.ErrForm)
		refuses(t, wrong+" none", api.ErrForm)

		// At the bound: the one too many is wrong, or one ahead of it, or one behind it.
		refuses(t, most+" "+wrong, api.ErrForm)
		refuses(t, wrong+" "+most+" self", api.ErrForm)
		refuses(t, numbered(api.MaxSources-1)+" "+wrong+" self self", api.ErrForm)
		refuses(t, most+" self "+wrong, api.ErrLong)
	}
}

func TestNoneStandsAlone(t *testing.T) {
	for _, in := range []string{"none self", "self none", "none none", "none *", "* none", "none http://a", "http://a none", "none *.a", "self none *", "none none none", " none self", "self none ", "none\tnone", "none  none"} {
		refuses(t, in, api.ErrForm)
	}
	most := numbered(api.MaxSources)
	refuses(t, most+" none", api.ErrForm)
	refuses(t, most+" none self", api.ErrForm)
	refuses(t, "none "+most+" self", api.ErrForm)
	refuses(t, numbered(api.MaxSources-1)+" none self", api.ErrForm)
	refuses(t, most+" self none", api.ErrLong)
	refuses(t, strings.Repeat("none ", api.MaxSources+1), api.ErrForm)
}

func TestMaxSources(t *testing.T) {
	for _, l := range []string{numbered(api.MaxSources - 1), numbered(api.MaxSources), strings.TrimSpace(strings.Repeat("self ", api.MaxSources)), strings.TrimSpace(strings.Repeat("*.a ", api.MaxSources))} {
		lists(t, l, l)
		lists(t, " "+strings.ReplaceAll(l, " ", " \t ")+" ", l)
	}
	most := numbered(api.MaxSources)
	for _, more := range []string{"self", "*", "http://p0", "http://x", "HTTP://X:80", "closed:7", "*.a", "*.A", "self self", "self none", "self x", "self\t"} {
		refuses(t, most+" "+more, api.ErrLong)
		refuses(t, " "+most+"\t "+more+" ", api.ErrLong)
	}
	refuses(t, strings.Repeat("self ", api.MaxSources+1), api.ErrLong) // the same one once more is one more
	refuses(t, numbered(10000), api.ErrLong)
	last := listed(t, most)
	if o := at(t, "http://p"+strconv.Itoa(api.MaxSources-1)); !last.Allows(origin.Origin{}, o) {
		t.Error("the last of the most sources doesn't allow")
	}
}

func TestZeroSources(t *testing.T) {
	var s policy.Sources
	if !reflectsNone(t, s) || !reflectsNone(t, listed(t, "none")) || !reflectsNone(t, policy.Policy{}.Connect) || !reflectsNone(t, policy.Policy{}.Frame) {
		t.Errorf("the zero value: %q", s.Text())
	}
}

// P12.1: Allows

// allows: a list allows just these of some origins, for somebody whose own origin is self.
func allows(t *testing.T, list, self string, want ...string) {
	t.Helper()
	s := listed(t, list)
	for _, text := range asked() {
		if got := s.Allows(at(t, self), at(t, text)); got != slices.Contains(want, text) {
			t.Errorf("%q allows %q for %q: %t", list, text, self, got)
		}
	}
}

// asked are the texts of some origins ("" of the zero value).
func asked() []string {
	return []string{
		"", "closed:1", "closed:7", "closed:1099511627776", "http://a", "http://org", "http://a.org", "https://a.org", "http://a.org:8080", "http://x.a.org", "https://x.a.org:81", "http://y.x.a.org",
		"http://ba.org", "http://a.org.b", "http://x.a.org.b", "http://a-org", "http://xa.org", "http://x-a.org", "http://1.2.3.4", "http://2.3.4.a.org", "http://self", "http://none",
	}
}

// opened: those of asked that are a server's, and the zero value.
func opened() []string {
	return slices.DeleteFunc(asked(), func(text string) bool { return strings.HasPrefix(text, "closed:") })
}

func TestAllowsNone(t *testing.T) {
	for _, self := range asked() {
		allows(t, "none", self)
	}
}

func TestAllowsSelf(t *testing.T) {
	for _, self := range asked() {
		allows(t, "self", self, self)
	}
	allows(t, "self", "http://b") // somebody who isn't asked for
}

func TestAllowsAll(t *testing.T) {
	for _, self := range asked() {
		allows(t, "*", self, opened()...)
		allows(t, "* self", self, append(opened(), self)...)
		allows(t, "self *", self, append(opened(), self)...)
	}
	allows(t, "* closed:7", "", append(opened(), "closed:7")...)
}

func TestAllowsOrigin(t *testing.T) {
	for _, self := range asked() {
		for _, text := range asked() {
			if text != "" {
				allows(t, text, self, text)
			}
		}
		allows(t, "HTTP://A.Org:80", self, "http://a.org")
		allows(t, "https://A.Org:443", self, "https://a.org")
		allows(t, "http://a.org:443", self)
		allows(t, "https://a.org:80", self)
		allows(t, "http://a.org:8081", self)
		allows(t, "closed:8", self)
	}
}

func TestAllowsDomain(t *testing.T) {
	under := []string{"http://x.a.org", "https://x.a.org:81", "http://y.x.a.org", "http://2.3.4.a.org"}
	for _, self := range asked() {
		allows(t, "*.a.org", self, under...)
		allows(t, "*.A.ORG", self, under...)
		allows(t, "*.x.a.org", self, "http://y.x.a.org")
		allows(t, "*.y.x.a.org", self)
		allows(t, "*.a", self)
		allows(t, "*.b", self, "http://a.org.b", "http://x.a.org.b")
		allows(t, "*.org", self, append(under, "http://a.org", "https://a.org", "http://a.org:8080", "http://ba.org", "http://xa.org", "http://x-a.org")...)
	}
}

func TestAllowsOneOfMany(t *testing.T) {
	allows(t, "self *.a.org", "http://a", "http://a", "http://x.a.org", "https://x.a.org:81", "http://y.x.a.org", "http://2.3.4.a.org")
	allows(t, "*.x.a.org http://a.org self", "closed:7", "http://y.x.a.org", "http://a.org", "closed:7")
	allows(t, "http://a http://a.org closed:1", "closed:7", "http://a", "http://a.org", "closed:1")
	allows(t, "http://b http://c", "http://a")
}

// Origins that somebody wrote, whose fields aren't those that a text tells.
func TestAllowsOddOrigins(t *testing.T) {
	for _, o := range []origin.Origin{
		{Scheme: "http", Host: "X.A.ORG", Port: 80}, {Scheme: "http", Host: ".a.org", Port: 80}, {Scheme: "http", Host: "x..a.org", Port: 80}, {Scheme: "http", Host: "*.a.org", Port: 80}, {Scheme: "http", Host: "x.a.org.", Port: 80},
		{Scheme: "http", Host: "x.a.org:81", Port: 80}, {Host: strings.Repeat("x.", 1000) + "a.org"}, {Host: strings.Repeat("x", 1<<20) + ".a.org"}, {Scheme: "http", Host: "x.a.org", Port: 80, Closed: 7}, {Closed: -1},
	} {
		if s := listed(t, "*.a.org http://x.a.org:81 http://x.a.org closed:7"); s.Allows(origin.Origin{}, o) {
			t.Errorf("%q allows %.80q", s.Text(), o.Text())
		}
		if s := listed(t, "self"); !s.Allows(o, o) || s.Allows(o, origin.Origin{}) {
			t.Errorf("self is %.80q: it doesn't allow just that", o.Text())
		}
	}
	// Ports are nothing to a domain.
	if s := listed(t, "*.a.org"); !s.Allows(origin.Origin{}, origin.Origin{Host: "x.a.org", Port: -1}) {
		t.Errorf("%q doesn't allow a host within", s.Text())
	}
}

func TestExample(t *testing.T) {
	x, a := at(t, "http://x.a.org"), at(t, "http://a.org")
	s := listed(t, "self *.a.org")
	if !s.Allows(at(t, "http://b"), x) || s.Allows(at(t, "http://b"), a) || !s.Allows(a, a) || !s.Allows(a, x) || s.Allows(x, a) {
		t.Error("the example of the chapter")
	}
}

// P12.2: Plain, and Of without fields

func TestPlain(t *testing.T) {
	for _, o := range []string{"http://a", "https://a.b.org:8080", "http://1.2.3.4", "http://a:443", "", "closed:1", "closed:7", "closed:1099511627776"} {
		own := o
		if o == "" || strings.HasPrefix(o, "closed:") {
			own = "always"
		}
		want := "always ; always, always ; always, never ; always, " + own + ", *, *"
		if got := said(policy.Plain(at(t, o))); got != want {
			t.Errorf("Plain(%q): %q, not %q", o, got, want)
		}
		says(t, o, want)
		says(t, o, want, "Data-Labels: x", "Label: x", "Sources: x", "Connect: x", "X-Data-Label: x", "Data: x", "Set-Cookie: a=b")
	}
	p := policy.Plain(at(t, "http://a"))
	if !p.Data.Same(label.Open()) || !p.Context.Same(label.Open()) || !p.Clearance.Same(label.Shut()) || p.Privilege.Len() != 1 {
		t.Errorf("Plain: %q", said(p))
	}
	if p, e := policy.Of(header.Header{}, origin.Origin{}); e != api.OK || said(p) != said(policy.Plain(origin.Origin{})) || p.Privilege.Len() != 0 {
		t.Errorf("Of zero values: %q, %d", said(p), int(e))
	}
	if got := said(policy.Policy{}); got != zero {
		t.Errorf("the zero value: %q", got)
	}
}

// Of origins that somebody wrote: what isn't a server's has no privilege, though its text be another one's.
func TestPlainOfOddOrigins(t *testing.T) {
	for _, o := range []origin.Origin{
		{Scheme: "http", Host: "a:81", Port: 80}, {Scheme: "http", Host: "A", Port: 80}, {Scheme: "http", Port: 80}, {Host: "a"}, {Scheme: "ftp", Host: "a", Port: 21}, {Scheme: "http", Host: "a", Port: 0}, {Scheme: "http", Host: "a", Port: 65536},
		{Scheme: "http", Host: "a", Port: 80, Closed: 7}, {Closed: -7}, {Closed: 1 << 62}, {Host: strings.Repeat("a", 1<<16)}, {Scheme: "http", Host: "a | http://b", Port: 80}, {Scheme: "http", Host: "a & http://b", Port: 80},
	} {
		if p := policy.Plain(o); p.Privilege.Len() != 0 {
			t.Errorf("Plain(%.80q) has the privilege %.80q", o.Text(), p.Privilege.Text())
		}
		p, e := policy.Of(block(t, "Context-Privilege: http://a"), o)
		if e != api.ErrPolicy || said(p) != zero {
			t.Errorf("Of a privilege, for %.80q: %q, %d", o.Text(), said(p), int(e))
		}
	}
}

// P12.2: Of

// names are those of the fields, in the table's order.
func names() []string {
	return []string{"Data-Label", "Context-Label", "Context-Clearance", "Context-Privilege", "Connect-Sources", "Frame-Sources"}
}

// values: for each of the fields a good value and its text.
func values() (given, told []string) {
	return []string{"http://b|http://a;http://c", "http://c & http://b", "http://c&http://b&http://d", "http://a | http://z", "self  *.B", "https://F:443"},
		[]string{"http://a | http://b ; http://c", "http://b & http://c ; always", "http://b & http://c & http://d ; always", "http://a | http://z", "self *.b", "https://f"}
}

func TestEachFieldAloneAndMissing(t *testing.T) {
	given, told := values()
	missing := []string{"always ; always", "always ; always", "never ; always", "http://a", "*", "*"}
	for set := range 1 << len(names()) {
		lines, want := []string{"First: x"}, slices.Clone(missing)
		for i, name := range names() {
			if set>>i&1 == 1 {
				lines, want[i] = append(lines, name+": "+given[i]), told[i]
			}
		}
		says(t, "http://a", strings.Join(want, ", "), lines...)
		slices.Reverse(lines) // the order in which they stand is nothing to it
		says(t, "http://a", strings.Join(want, ", "), lines...)
	}
}

func TestFieldsInOtherLetters(t *testing.T) {
	given, told := values()
	for _, letters := range []func(string) string{strings.ToLower, strings.ToUpper, func(s string) string { return strings.ToLower(s[:1]) + s[1:] }} {
		var lines []string
		for i, name := range names() {
			lines = append(lines, letters(name)+":"+given[i])
		}
		says(t, "http://a", strings.Join(told, ", "), lines...)
	}
}

func TestValuesOfFields(t *testing.T) {
	says(t, "http://a", "never ; never, always ; always, never ; always, http://a, *, *", "Data-Label: never ; never")
	says(t, "http://a", "always ; always, never ; always, never ; always, http://a, *, *", "Context-Label: never")
	says(t, "http://a", "always ; always, always ; always, always ; always, http://a, *, *", "Context-Clearance: always")
	says(t, "http://a", "always ; always, always ; always, never ; always, always, *, *", "Context-Privilege: always")
	says(t, "http://a", "always ; always, always ; always, never ; always, http://a, none, *", "Connect-Sources: none")
	says(t, "http://a", "always ; always, always ; always, never ; always, http://a, *, none", "Frame-Sources:\tnone\t")
	says(t, "http://a", "http://q ; always, always ; always, never ; always, http://a, *, *", "Data-Label: http://q") // the data's label is nothing to the clearance
	says(t, "http://a", "http://q ; always, always ; always, always ; always, http://a, *, *", "Data-Label: http://q", "Context-Clearance: always")
	most := numbered(api.MaxSources)
	says(t, "http://a", "always ; always, always ; always, never ; always, http://a, "+most+", "+most, "Connect-Sources: "+most, "Frame-Sources: "+most)
}

// wrongValues: values that the field of a place can't have, with their errors.
func wrongValues(i int) map[string]api.Errno {
	many := func(n int, between string) string { return strings.ReplaceAll(numbered(n), " ", between) }
	long := strings.Repeat("x", api.MaxText+1)
	switch i {
	case 0, 1, 2:
		return map[string]api.Errno{
			"": api.ErrForm, "x": api.ErrForm, "open": api.ErrForm, "http://a;": api.ErrForm, ";": api.ErrForm, "always;always;always": api.ErrForm, "http://a/": api.ErrForm, "x;" + many(api.MaxFormula+1, "&"): api.ErrForm,
			long: api.ErrLong, many(api.MaxFormula+1, "&"): api.ErrLong, many(api.MaxClause+1, "|"): api.ErrLong, "always;" + many(api.MaxFormula+1, "&"): api.ErrLong,
		}
	case 3:
		return map[string]api.Errno{
			"": api.ErrForm, "x": api.ErrForm, "self": api.ErrForm, "HTTP://a": api.ErrForm, "http://a:80": api.ErrForm, "http://a;": api.ErrForm, "http://a ; always": api.ErrForm, "always & http://a": api.ErrForm, "http://a,http://b": api.ErrForm,
			long: api.ErrLong, many(api.MaxFormula+1, "&"): api.ErrLong, many(api.MaxClause+1, "|"): api.ErrLong,
		}
	}
	return map[string]api.Errno{
		"": api.ErrForm, "x": api.ErrForm, "none self": api.ErrForm, "self none": api.ErrForm, "*.": api.ErrForm, "*.1.2.3.4": api.ErrForm, "http://a/": api.ErrForm, "http://a;": api.ErrForm, long: api.ErrForm,
		numbered(api.MaxSources) + " x": api.ErrForm, numbered(api.MaxSources + 1): api.ErrLong,
	}
}

func TestWrongValues(t *testing.T) {
	given, _ := values()
	for i, name := range names() {
		for wrong, errno := range wrongValues(i) {
			line := name + ": " + wrong
			for _, o := range []string{"http://a", "", "closed:7"} {
				denies(t, o, errno, line)
			}
			denies(t, "http://a", errno, strings.ToUpper(name)+":"+wrong)

			// Beside a good value of another field, ahead of it or behind it.
			for j, other := range names() {
				if j != i {
					denies(t, "http://a", errno, line, other+": "+given[j])
					denies(t, "http://a", errno, other+": "+given[j], line)
				}
			}
		}
	}
}

func TestFieldTwice(t *testing.T) {
	given, _ := values()
	for i, name := range names() {
		good := name + ": " + given[i]
		denies(t, "http://a", api.ErrExist, good, good)
		denies(t, "http://a", api.ErrExist, good, "X: y", strings.ToUpper(good[:len(name)])+good[len(name):])
		denies(t, "http://a", api.ErrExist, good, good, good)
		denies(t, "closed:7", api.ErrExist, good, good)
		for wrong := range wrongValues(i) {
			bad := strings.ToLower(name) + ": " + wrong
			denies(t, "http://a", api.ErrExist, good, bad)
			denies(t, "http://a", api.ErrExist, bad, good)
			denies(t, "http://a", api.ErrExist, bad, bad)
		}
	}
	h, e := header.Of(slices.Repeat([]header.Field{{Name: []byte("frame-sources"), Value: []byte("*")}}, api.MaxFields)...)
	if e != api.OK {
		t.Fatal(int(e))
	}
	if p, e := policy.Of(h, at(t, "http://a")); e != api.ErrExist || said(p) != zero {
		t.Errorf("the same field often: %q, %d", said(p), int(e))
	}
}

// Of two fields with errors the first in the table's order tells, however they stand.
func TestFirstErrorTells(t *testing.T) {
	given, _ := values()
	wrongs := func(i int) map[api.Errno][]string {
		good := names()[i] + ": " + given[i]
		all := map[api.Errno][]string{api.ErrExist: {good, good}}
		for wrong, errno := range wrongValues(i) {
			all[errno] = []string{names()[i] + ": " + wrong}
		}
		return all
	}
	for i := range names() {
		for j := range i {
			for _, behind := range wrongs(i) {
				for errno, ahead := range wrongs(j) {
					denies(t, "http://a", errno, slices.Concat(ahead, behind)...)
					denies(t, "http://a", errno, slices.Concat(behind, ahead)...)
				}
			}
		}
	}
}

func TestErrPolicyOfPrivilege(t *testing.T) {
	for _, c := range []struct {
		origin, privilege string
		covered           bool
	}{
		{"http://a", "http://a", true}, {"http://a", "always", true}, {"http://a", "http://a | http://b", true}, {"http://a", "http://b|http://a & http://a|http://c", true},
		{"http://a", "http://b", false}, {"http://a", "https://a", false}, {"http://a", "http://a:81", false}, {"http://a", "http://x.a", false}, {"http://a", "never", false}, {"http://a", "http://a & http://b", false},
		{"http://a", "http://b | http://c", false}, {"http://a", "http://a | http://b & http://c", false}, {"http://a", "closed:7", false},
		{"https://a.org:8080", "https://a.org:8080", true}, {"https://a.org:8080", "https://a.org", false}, {"http://a.org", "http://x.a.org", false}, {"http://x.a.org", "http://a.org", false},
		{"closed:7", "always", true}, {"closed:7", "closed:7", false}, {"closed:7", "closed:7 | http://a", false}, {"closed:7", "http://a", false}, {"closed:7", "never", false},
		{"", "always", true}, {"", "http://a", false}, {"", "never", false}, {"", "closed:1", false},
	} {
		line := "Context-Privilege: " + c.privilege
		if !c.covered {
			denies(t, c.origin, api.ErrPolicy, line)
			denies(t, c.origin, api.ErrPolicy, "Context-Label: http://b", line, "Context-Clearance: http://b & http://c")
			continue
		}
		f, _ := formula.Parse([]byte(c.privilege))
		says(t, c.origin, "always ; always, always ; always, never ; always, "+f.Text()+", *, *", line)
	}
}

func TestErrPolicyOfClearance(t *testing.T) {
	for _, c := range []struct {
		context, clearance string // "" where the field is missing
		flows              bool
	}{
		{"", "always", true}, {"", "http://a", true}, {"", "never", true}, {"", "", true}, {"http://a", "", true}, {"never", "", true}, {"http://a ; http://c", "", true}, {"always ; never", "", true},
		{"http://a", "http://a", true}, {"http://a", "http://a & http://b", true}, {"http://a | http://b", "http://a", true}, {"http://a ; http://c", "http://a ; http://c | http://d", true}, {"always ; never", "never ; never", true},
		{"http://a", "always", false}, {"http://b", "always", false}, {"http://a", "http://b", false}, {"http://a & http://b", "http://a", false}, {"never", "http://a", false}, {"never ; never", "always ; always", false},
		{"", "always ; http://a", false}, {"", "never ; never", false}, {"http://a", "http://a ; http://a", false}, {"http://a ; http://c | http://d", "http://a ; http://c", false},
	} {
		var lines []string
		context, clearance := label.Open(), label.Shut()
		if c.context != "" {
			lines = append(lines, "Context-Label: "+c.context)
			context, _ = label.Parse([]byte(c.context))
		}
		if c.clearance != "" {
			lines = append(lines, "Context-Clearance: "+c.clearance)
			clearance, _ = label.Parse([]byte(c.clearance))
		}
		// Not by the privilege: it flows alone, or it doesn't.
		for _, o := range []string{"http://a", "closed:7", ""} {
			if !c.flows {
				denies(t, o, api.ErrPolicy, lines...)
				denies(t, o, api.ErrPolicy, append(lines, "Context-Privilege: always")...)
				denies(t, o, api.ErrPolicy, append(lines, "Context-Privilege: never")...)
				continue
			}
			own := policy.Plain(at(t, o)).Privilege.Text()
			says(t, o, "always ; always, "+context.Text()+", "+clearance.Text()+", "+own+", *, *", lines...)
		}
	}
}

// What a policy forbids is told at the end, behind the errors of all values.
func TestErrPolicyTellsLast(t *testing.T) {
	given, _ := values()
	forbidden := [][]string{{"Context-Privilege: http://b"}, {"Context-Label: http://b", "Context-Clearance: always"}, {"Context-Clearance: always ; http://a"}, {"Context-Privilege: never", "Context-Label: never", "Context-Clearance: http://a"}}
	for _, lines := range forbidden {
		denies(t, "http://a", api.ErrPolicy, lines...)
		for i, name := range names() {
			if strings.Contains(strings.Join(lines, "\n"), name) {
				continue
			}
			for wrong, errno := range wrongValues(i) {
				denies(t, "http://a", errno, append(slices.Clone(lines), name+": "+wrong)...)
				denies(t, "http://a", errno, append([]string{name + ": " + wrong}, lines...)...)
			}
			denies(t, "http://a", api.ErrExist, append(slices.Clone(lines), name+": "+given[i], name+": "+given[i])...)
		}
	}
	for i, name := range names()[4:] { // beside good ones it is told
		denies(t, "http://a", api.ErrPolicy, "Context-Privilege: http://b", name+": "+given[4+i])
	}
}
