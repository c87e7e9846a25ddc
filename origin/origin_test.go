package origin_test

import (
	"bytes"
	"math"
	"strings"
	"testing"

	"cordon/api"
	"cordon/origin"
	"cordon/url"
)

// mostClosed is the greatest number of a closed origin whose text is parsed.
const mostClosed = 1 << 40

// server: the origin of a scheme, a host and a port.
func server(scheme, host string, port int) origin.Origin {
	return origin.Origin{Scheme: scheme, Host: host, Port: port}
}

// closed: the closed origin with that number, that there is.
func closed(t *testing.T, n int) origin.Origin {
	t.Helper()
	o, e := origin.Closed(n)
	if e != api.OK {
		t.Fatalf("Closed(%d): %d", n, int(e))
	}
	return o
}

// located: the URL of a text that is one.
func located(t *testing.T, in string) url.URL {
	t.Helper()
	u, e := url.Parse([]byte(in))
	if e != api.OK {
		t.Fatalf("%.80q is no URL: %d", in, int(e))
	}
	return u
}

// parses: the origin of a text is want, and has the text that is told.
func parses(t *testing.T, in string, want origin.Origin, text string) {
	t.Helper()
	if o, e := origin.Parse([]byte(in)); o != want || e != api.OK || o.Text() != text {
		t.Errorf("Parse(%.80q): %+v, %d, with the text %q, not %q", in, o, int(e), o.Text(), text)
	}
}

// refused: Parse answers an error, and nothing beside it; and the text is no principal.
func refused(t *testing.T, in string, want api.Errno) {
	t.Helper()
	if o, e := origin.Parse([]byte(in)); o != (origin.Origin{}) || e != want {
		t.Errorf("Parse(%.80q): %+v, %d, not %d", in, o, int(e), int(want))
	}
	principal(t, in, false)
}

func principal(t *testing.T, in string, want bool) {
	t.Helper()
	if got := origin.Principal(in); got != want {
		t.Errorf("Principal(%.80q): %t", in, got)
	}
}

// longHost: a host of n bytes (193 to 255), four parts, but that it may be too long.
func longHost(n int) string {
	part := strings.Repeat("x", api.MaxPart) + "."
	return strings.Repeat(part, 3) + strings.Repeat("y", n-3*len(part))
}

// filled: a text with so many letters behind it that it has n bytes.
func filled(text string, n int) string {
	return text + strings.Repeat("x", n-len(text))
}

// P6.1: Of

func TestOf(t *testing.T) {
	for _, c := range []struct {
		in   string
		want origin.Origin
		text string
	}{
		{"http://a.org:8080/x", server("http", "a.org", 8080), "http://a.org:8080"},
		{"http://a", server("http", "a", 80), "http://a"},
		{"http://a:80/", server("http", "a", 80), "http://a"},
		{"https://a", server("https", "a", 443), "https://a"},
		{"https://a:443/b/c?d#e", server("https", "a", 443), "https://a"},
		{"HTTPS://A.Org:80?q", server("https", "a.org", 80), "https://a.org:80"},
		{"HTTP://A.Org:443#f", server("http", "a.org", 443), "http://a.org:443"},
		{"http://1.2.3.4/b://c:5", server("http", "1.2.3.4", 80), "http://1.2.3.4"},
		{"http://a:1?#", server("http", "a", 1), "http://a:1"},
		{"https://a:65535", server("https", "a", 65535), "https://a:65535"},
	} {
		u := located(t, c.in)
		if o := origin.Of(u); o != c.want || o.Text() != c.text {
			t.Errorf("Of(%q): %+v, with the text %q, not %q", c.in, o, o.Text(), c.text)
		}
	}
}

// Two URLs are of one origin whatever their paths, queries and fragments; scheme, host and port each tell them apart.
func TestSameOrigin(t *testing.T) {
	first := origin.Of(located(t, "http://a.org/x?y#z"))
	for _, in := range []string{"http://a.org", "HTTP://A.ORG:80/", "http://a.org/w", "http://a.org?y", "http://a.org#z"} {
		if o := origin.Of(located(t, in)); o != first {
			t.Errorf("%q: %+v isn't %+v", in, o, first)
		}
	}
	for _, in := range []string{"https://a.org/x?y#z", "https://a.org:80/x", "http://a.org:443/x", "http://a.org:8080/x", "http://b.org/x", "http://x.a.org/x", "http://org/x"} {
		if o := origin.Of(located(t, in)); o == first {
			t.Errorf("%q: %+v is %+v", in, o, first)
		}
	}
}

// P6.1: Closed

func TestClosed(t *testing.T) {
	for n, text := range map[int]string{
		1: "closed:1", 2: "closed:2", 7: "closed:7", 10: "closed:10", 443: "closed:443",
		mostClosed - 1: "closed:1099511627775", mostClosed: "closed:1099511627776", mostClosed + 1: "closed:1099511627777", math.MaxInt: "closed:9223372036854775807",
	} {
		o, e := origin.Closed(n)
		if o != (origin.Origin{Closed: n}) || e != api.OK || o.Text() != text {
			t.Errorf("Closed(%d): %+v, %d, with the text %q", n, o, int(e), o.Text())
		}
	}
	for _, n := range []int{0, -1, -7, -mostClosed, math.MinInt, math.MinInt + 1} {
		if o, e := origin.Closed(n); o != (origin.Origin{}) || e != api.ErrRange {
			t.Errorf("Closed(%d): %+v, %d", n, o, int(e))
		}
	}
}

func TestClosedIsTheSameAsItselfAlone(t *testing.T) {
	others := []origin.Origin{{}, server("http", "closed", 80), server("http", "closed", 7), closed(t, 1), closed(t, 6), closed(t, 8), closed(t, 70), closed(t, mostClosed), closed(t, mostClosed+7)}
	for _, o := range others {
		if o == closed(t, 7) {
			t.Errorf("%+v is the closed origin 7", o)
		}
	}
	if closed(t, 7) != closed(t, 7) {
		t.Error("a closed origin isn't the same as itself")
	}
}

// P6.1: Parse

func TestParse(t *testing.T) {
	parses(t, "http://a.org", server("http", "a.org", 80), "http://a.org")
	parses(t, "https://a.org", server("https", "a.org", 443), "https://a.org")
	parses(t, "http://a.org:8080", server("http", "a.org", 8080), "http://a.org:8080")
	parses(t, "https://b-c.a.org:1", server("https", "b-c.a.org", 1), "https://b-c.a.org:1")
	parses(t, "http://1.2.3.4", server("http", "1.2.3.4", 80), "http://1.2.3.4")
	parses(t, "https://255.255.255.255:65535", server("https", "255.255.255.255", 65535), "https://255.255.255.255:65535")
	parses(t, "http://closed:7", server("http", "closed", 7), "http://closed:7")
	parses(t, "http://a.b.c.d.e.f.g.h", server("http", "a.b.c.d.e.f.g.h", 80), "http://a.b.c.d.e.f.g.h")
	parses(t, "closed:7", origin.Origin{Closed: 7}, "closed:7")
}

func TestGreatLetters(t *testing.T) {
	for _, in := range []string{"HTTP", "Http", "hTtP", "httP"} {
		parses(t, in+"://a", server("http", "a", 80), "http://a")
		parses(t, in+"s://A:8", server("https", "a", 8), "https://a:8")
		parses(t, in+"S://a.B", server("https", "a.b", 443), "https://a.b")
		principal(t, in+"://a", false)
	}
	parses(t, "http://A.B-C.Org", server("http", "a.b-c.org", 80), "http://a.b-c.org")
	parses(t, "http://ABCDEFGHIJKLMNOPQRSTUVWXYZ:8", server("http", "abcdefghijklmnopqrstuvwxyz", 8), "http://abcdefghijklmnopqrstuvwxyz:8")
	principal(t, "http://abcdefghijklmnopqrstuvwxyz:8", true)
	for _, in := range []string{"http://A", "http://a.oRg", "https://a.org.Z:8"} {
		principal(t, in, false)
		principal(t, strings.ToLower(in), true)
	}
}

func TestPorts(t *testing.T) {
	for _, c := range []struct {
		in   string
		want origin.Origin
		text string
	}{
		{"http://a:80", server("http", "a", 80), "http://a"}, {"https://a:443", server("https", "a", 443), "https://a"},
		{"HTTP://a:80", server("http", "a", 80), "http://a"}, {"HTTPS://a:443", server("https", "a", 443), "https://a"},
		{"http://a:443", server("http", "a", 443), "http://a:443"}, {"https://a:80", server("https", "a", 80), "https://a:80"},
		{"http://a:79", server("http", "a", 79), "http://a:79"}, {"http://a:81", server("http", "a", 81), "http://a:81"}, {"https://a:442", server("https", "a", 442), "https://a:442"}, {"https://a:444", server("https", "a", 444), "https://a:444"},
		{"http://a:1", server("http", "a", 1), "http://a:1"}, {"http://a:65535", server("http", "a", 65535), "http://a:65535"},
	} {
		parses(t, c.in, c.want, c.text)
		principal(t, c.in, c.in == c.text)
		principal(t, c.text, true)
	}
	for _, port := range []string{"", "0", "65536", "99999", "100000", "080", "0443", "01", "00", "+80", "-80", " 80", "80 ", "8 0", "a", "80a", "0x50", "80:", ":80", "80:80", "%38", "\u0661", "4294967376", "18446744073709551696"} {
		refused(t, "http://a:"+port, api.ErrForm)
		refused(t, "https://A:"+port, api.ErrForm)
	}
}

func TestClosedNumbers(t *testing.T) {
	for _, c := range []struct {
		in string
		n  int
	}{{"closed:1", 1}, {"closed:9", 9}, {"closed:10", 10}, {"closed:1099511627775", mostClosed - 1}, {"closed:1099511627776", mostClosed}} {
		parses(t, c.in, origin.Origin{Closed: c.n}, c.in)
		principal(t, c.in, true)
	}
	for _, number := range []string{
		"", "0", "00", "01", "07", "007", "-1", "-0", "+1", " 1", "1 ", "\t1", "1\n", "1 2", "1_0", "1.0", "1a", "a", "0x1", "1e1", ":1", "1:", "1/", "/1", "1?", "1#", "1#f", "%31", "\u0661", "\x00", "\xff", "closed:1",
		"//a", "//a:1", "//a.org/x", "http://a", "9223372036854775808", "18446744073709551617", strings.Repeat("1", 64), "1" + strings.Repeat("0", 40), filled("1", api.MaxText-len("closed:")), strings.Repeat("9", api.MaxText-len("closed:")),
	} {
		refused(t, "closed:"+number, api.ErrForm)
	}
	for _, in := range []string{"closed:1099511627777", "closed:1099511627780", "closed:9223372036854775807", "closed:10995116277760"} {
		if o, e := origin.Parse([]byte(in)); o != (origin.Origin{}) || e != api.ErrForm {
			t.Errorf("Parse(%q): %+v, %d", in, o, int(e))
		}
	}
}

// What doesn't begin with "closed:" is of no closed origin, whatever it looks like.
func TestNotClosed(t *testing.T) {
	for _, in := range []string{"closed", "closed7", "close:7", "closedd:7", "xclosed:7", " closed:7", "Closed:7", "CLOSED:7", "closeD:7", "closed :7", "closed;7", "closed/7", "clo\u017fed:7", ":7", "7", "Closed://a", "closed//:7"} {
		refused(t, in, api.ErrScheme)
	}
	refused(t, "http://closed:0", api.ErrForm)
	refused(t, "http:closed:7", api.ErrScheme)
}

func TestPathsQueriesAndFragments(t *testing.T) {
	for _, begin := range []string{"http://a", "https://a.org", "http://a:80", "http://a:8080", "HTTPS://A.org:443", "http://1.2.3.4"} {
		for _, rest := range []string{"/", "//", "/.", "/./", "/..", "/x", "/x/", "/x/..", "/%2e", "?", "?q", "#", "#f", "?#", "?q#f", "/?", "/#", "/?#", "/x?y#z", "/?/", "#/", "?/", "/ ", "/\x00", "/://", "?://", "#://b", "/:80"} {
			refused(t, begin+rest, api.ErrForm)
		}
		if _, e := origin.Parse([]byte(begin)); e != api.OK {
			t.Errorf("Parse(%q): %d", begin, int(e))
		}
	}
}

func TestSchemes(t *testing.T) {
	for _, in := range []string{
		"", "a", "a.org", "/", "//a", "://a", ":", "http", "http:", "http:/", "http:/a", "http//a", "http:a", "http: //a", "http;//a", "ftp://a", "ftp://a/x?y#z", "file:///a", "httpx://a", "httpss://a", "htt://a", "xhttp://a", " http://a", "http ://a", "\thttp://a", "\nhttp://a", "http\x00://a", "ws://a", "http:http://a",
		"http\u017f://a", "\u212attp://a", "data:x", "null", "about:blank", "%68ttp://a", "none", "self", "*", "*.a", "never", "http:\\\\a",
	} {
		refused(t, in, api.ErrScheme)
	}
	if o, e := origin.Parse(nil); o != (origin.Origin{}) || e != api.ErrScheme {
		t.Errorf("Parse(nil): %+v, %d", o, int(e))
	}
}

func TestHosts(t *testing.T) {
	for _, in := range []string{
		"", ".", "a..b", "a.", ".a", "-a", "a-", "a_b", "a b", " a", "a ", "a\t", "a\n", "\ta", "1.2.3", "256.1.1.1", "01.2.3.4", "1", "a.1", "*.a", "*", "a%62", "%61", "u@a", "@a", "[", "[]", "a\\b", "\u00e9", "\x00", "\xff", "a|b", "a.b.c.d.e.f.g.h.i", strings.Repeat("x", api.MaxPart+1),
	} {
		refused(t, "http://"+in, api.ErrForm)
		refused(t, "https://"+in+":8", api.ErrForm)
	}
	refused(t, "http://u:p@a", api.ErrForm)
	refused(t, "http://[::1]", api.ErrForm)
	refused(t, "http://http://a", api.ErrForm)
}

// As long a text as there may be, and one byte more.
func TestLengths(t *testing.T) {
	longest := longHost(api.MaxHost)
	parses(t, "http://"+longest, server("http", longest, 80), "http://"+longest)
	parses(t, "https://"+longest+":65535", server("https", longest, 65535), "https://"+longest+":65535")
	parses(t, "HTTPS://"+strings.ToUpper(longest)+":443", server("https", longest, 443), "https://"+longest)
	principal(t, "https://"+longest+":65535", true)
	principal(t, "https://"+strings.ToUpper(longest)+":65535", false)
	for _, rest := range []string{"", ":80", ":0", "/", "/x?y#z"} {
		refused(t, "http://"+longHost(api.MaxHost+1)+rest, api.ErrLong)
		refused(t, "https://"+strings.Repeat(".", api.MaxHost+1)+rest, api.ErrLong)
		refused(t, "https://"+strings.Repeat(".", api.MaxHost)+rest, api.ErrForm)
	}
	refused(t, filled("http://", api.MaxText), api.ErrLong)
	for _, in := range []string{"http://a/", "http://a:80?", "https://a/#", "HTTP://A:0/", "http://-/"} {
		refused(t, filled(in, api.MaxText), api.ErrForm)
		refused(t, filled(in, api.MaxText+1), api.ErrLong)
	}
	for _, in := range []string{"", "ftp://a", "://", "closed7", "Closed:7"} {
		refused(t, filled(in, api.MaxText), api.ErrScheme)
		refused(t, filled(in, api.MaxText+1), api.ErrLong)
	}
	refused(t, filled("http://a/", 1<<20), api.ErrLong)
}

// Of several errors the one that the chapters name first is told.
func TestOrderOfErrors(t *testing.T) {
	for _, bad := range []string{"/", "?q", "#f", ":0", ":0/", "/%", "?%4", "#%g0"} {
		refused(t, "http://a"+bad, api.ErrForm)
		refused(t, "ftp://a"+bad, api.ErrScheme)
		refused(t, "ftp://"+longHost(api.MaxHost+1)+bad, api.ErrScheme)
		refused(t, "http://"+longHost(api.MaxHost+1)+bad, api.ErrLong)
		refused(t, filled("ftp://a"+bad, api.MaxText+1), api.ErrLong)
		refused(t, "closed://a"+bad, api.ErrForm)
		refused(t, "closed:7"+bad, api.ErrForm)
	}
}

// P6.2

func TestText(t *testing.T) {
	if got := (origin.Origin{}).Text(); got != "" {
		t.Errorf("Text of the zero value: %q", got)
	}
	for _, c := range []struct {
		o    origin.Origin
		want string
	}{
		{server("http", "a.org", 80), "http://a.org"}, {server("https", "a.org", 443), "https://a.org"},
		{server("http", "a.org", 443), "http://a.org:443"}, {server("https", "a.org", 80), "https://a.org:80"},
		{server("http", "a.org", 1), "http://a.org:1"}, {server("https", "a.org", 65535), "https://a.org:65535"}, {server("http", "1.2.3.4", 8080), "http://1.2.3.4:8080"},
		{origin.Origin{Closed: 1}, "closed:1"}, {origin.Origin{Closed: mostClosed}, "closed:1099511627776"},
	} {
		if got := c.o.Text(); got != c.want {
			t.Errorf("Text of %+v: %q, not %q", c.o, got, c.want)
		}
	}
}

func TestURL(t *testing.T) {
	for in, want := range map[string]string{
		"http://a": "http://a/", "https://a": "https://a/", "http://a:80": "http://a/", "http://a:443": "http://a:443/", "https://a.org:65535": "https://a.org:65535/", "HTTP://A.Org:8080": "http://a.org:8080/", "http://1.2.3.4:1": "http://1.2.3.4:1/",
		"https://" + longHost(api.MaxHost) + ":65535": "https://" + longHost(api.MaxHost) + ":65535/",
	} {
		o, e := origin.Parse([]byte(in))
		u, found := o.URL()
		if e != api.OK || !found || string(u.Text()) != want || !sameURL(u, located(t, want)) {
			t.Errorf("URL of %q: %q, %t, %d", in, u.Text(), found, int(e))
		}
		if origin.Of(u) != o {
			t.Errorf("the URL of %q is %+v's", in, origin.Of(u))
		}
	}
	for in, want := range map[string]string{"http://a:8/b?c#d": "http://a:8/", "https://a?#": "https://a/"} {
		if u, found := origin.Of(located(t, in)).URL(); !found || !sameURL(u, located(t, want)) {
			t.Errorf("URL of the origin of %q: %q, %t", in, u.Text(), found)
		}
	}
}

// sameURL: are two URLs the same in each field? nil and empty lists are.
func sameURL(a, b url.URL) bool {
	return bytes.Equal(a.Scheme, b.Scheme) && bytes.Equal(a.Host, b.Host) && a.Port == b.Port && bytes.Equal(a.Path, b.Path) &&
		bytes.Equal(a.Query, b.Query) && a.HasQuery == b.HasQuery && bytes.Equal(a.Fragment, b.Fragment) && a.HasFragment == b.HasFragment
}

func TestNoURL(t *testing.T) {
	l := []origin.Origin{{}}
	for _, n := range []int{1, 2, 80, 443, mostClosed, mostClosed + 1, math.MaxInt} {
		l = append(l, closed(t, n))
	}
	for _, o := range l {
		if u, found := o.URL(); found || !sameURL(u, url.URL{}) {
			t.Errorf("URL of %+v: %q, %t", o, u.Text(), found)
		}
	}
}

func TestPrincipal(t *testing.T) {
	for _, in := range []string{"http://a", "https://a", "http://a.org", "https://a.b-c.org", "http://a:8080", "http://a:443", "https://a:80", "http://a:1", "https://a:65535", "http://1.2.3.4", "http://closed", "closed:1", "closed:7", "closed:1099511627776"} {
		principal(t, in, true)
	}
	for _, in := range []string{
		"", " ", "a", "http", "http://", "http:a", "ftp://a", "https://a:443", "http://a:80", "HTTP://a", "Http://a", "http://A", "http://a.Org", "HTTPS://a:80", "http://a/", "http://a/x", "http://a?", "http://a#", "http://a:8080/", "http://a:", "http://a:0", "http://a:08", "http://a:65536",
		" http://a", "http://a ", "http://a\n", "http://a\x00", "http://a | http://b", "http://a|http://b", "http://a & http://b", "http://a,http://b", "never", "always", "self", "*", "*.a", "http://1.2.3", "http://1.2.3.04",
		"closed", "closed:", "closed:0", "closed:-1", "closed:01", "closed:+1", "closed: 1", "closed:1 ", "Closed:1", "CLOSED:1", "closed:1/", "closed:a", "closed://a", "http://\xff", "\xff",
	} {
		principal(t, in, false)
	}
}
