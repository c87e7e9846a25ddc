package url_test

import (
	"bytes"
	"strings"
	"testing"

	"cordon/api"
	"cordon/url"
)

// same: are two URLs the same in each field? nil and empty lists are.
func same(a, b url.URL) bool {
	return bytes.Equal(a.Scheme, b.Scheme) && bytes.Equal(a.Host, b.Host) && a.Port == b.Port && bytes.Equal(a.Path, b.Path) &&
		bytes.Equal(a.Query, b.Query) && a.HasQuery == b.HasQuery && bytes.Equal(a.Fragment, b.Fragment) && a.HasFragment == b.HasFragment
}

// parsed: the URL of a text that is one.
func parsed(t *testing.T, in string) url.URL {
	t.Helper()
	u, e := url.Parse([]byte(in))
	if e != api.OK {
		t.Fatalf("Parse(%.80q): %d", in, int(e))
	}
	return u
}

// parses: the text of what is parsed is want.
func parses(t *testing.T, in, want string) {
	t.Helper()
	if u, e := url.Parse([]byte(in)); string(u.Text()) != want || e != api.OK {
		t.Errorf("Parse(%.80q): %.80q, %d, not %.80q", in, u.Text(), int(e), want)
	}
}

// refused: Parse answers an error, and nothing beside it.
func refused(t *testing.T, in string, want api.Errno) {
	t.Helper()
	if u, e := url.Parse([]byte(in)); !same(u, url.URL{}) || e != want {
		t.Errorf("Parse(%.80q): %.80q, %d, not %d", in, u.Text(), int(e), int(want))
	}
}

// resolves: a text resolved against a URL's text has the text want.
func resolves(t *testing.T, base, in, want string) {
	t.Helper()
	if u, e := parsed(t, base).Resolve([]byte(in)); string(u.Text()) != want || e != api.OK {
		t.Errorf("%.80q from %.80q: %.80q, %d, not %.80q", in, base, u.Text(), int(e), want)
	}
}

// unresolved: Resolve answers an error, and nothing beside it.
func unresolved(t *testing.T, base, in string, want api.Errno) {
	t.Helper()
	if u, e := parsed(t, base).Resolve([]byte(in)); !same(u, url.URL{}) || e != want {
		t.Errorf("%.80q from %.80q: %.80q, %d, not %d", in, base, u.Text(), int(e), int(want))
	}
}

// filled: a text with so many letters behind it that it has n bytes.
func filled(text string, n int) string {
	return text + strings.Repeat("x", n-len(text))
}

// P5.1

func TestFields(t *testing.T) {
	for _, c := range []struct {
		in                    string
		scheme, host          string
		port                  int
		path, query, fragment string
		hasQuery, hasFragment bool
	}{
		{"HTTPS://A.org:443/x/../y?q#f", "https", "a.org", 443, "/y", "q", "f", true, true},
		{"http://a", "http", "a", 80, "/", "", "", false, false},
		{"http://a:80", "http", "a", 80, "/", "", "", false, false},
		{"http://a:81/b", "http", "a", 81, "/b", "", "", false, false},
		{"https://1.2.3.4:80?q=1&r", "https", "1.2.3.4", 80, "/", "q=1&r", "", true, false},
		{"https://a#f", "https", "a", 443, "/", "", "f", false, true},
		{"http://a/b?", "http", "a", 80, "/b", "", "", true, false},
		{"http://a/b#", "http", "a", 80, "/b", "", "", false, true},
		{"http://a/b?#", "http", "a", 80, "/b", "", "", true, true},
		{"http://a/b?c/d?e:f#g#h?i/j", "http", "a", 80, "/b", "c/d?e:f", "g%23h?i/j", true, true},
		{"http://a#b?c/d:e", "http", "a", 80, "/", "", "b?c/d:e", false, true},
		{"http://a?b/c:d", "http", "a", 80, "/", "b/c:d", "", true, false},
		{"http://a/b:c", "http", "a", 80, "/b:c", "", "", false, false},
		{"http://a?b://c", "http", "a", 80, "/", "b://c", "", true, false},
	} {
		want := url.URL{
			Scheme: []byte(c.scheme), Host: []byte(c.host), Port: c.port, Path: []byte(c.path),
			Query: []byte(c.query), Fragment: []byte(c.fragment), HasQuery: c.hasQuery, HasFragment: c.hasFragment,
		}
		if u, e := url.Parse([]byte(c.in)); !same(u, want) || e != api.OK {
			t.Errorf("Parse(%q): %q, %d: not the fields that were asked for", c.in, u.Text(), int(e))
		}
	}
}

func TestText(t *testing.T) {
	parses(t, "HTTPS://A.org:443/x/../y?q#f", "https://a.org/y?q#f")
	parses(t, "http://a", "http://a/")
	parses(t, "http://a/", "http://a/")
	parses(t, "http://a?", "http://a/?")
	parses(t, "http://a#", "http://a/#")
	parses(t, "http://a?#", "http://a/?#")
	parses(t, "http://a:8080?#", "http://a:8080/?#")
	parses(t, "http://A.B-C.Org:1/Ab?Cd#Ef", "http://a.b-c.org:1/Ab?Cd#Ef")
	parses(t, "https://255.0.0.1/", "https://255.0.0.1/")
}

func TestSchemes(t *testing.T) {
	for _, in := range []string{"http", "HTTP", "Http", "hTtP", "httP"} {
		parses(t, in+"://a/b", "http://a/b")
		parses(t, in+"s://a/b", "https://a/b")
		parses(t, in+"S://a/b", "https://a/b")
	}
	for _, in := range []string{
		"", "a", "a.org", "/", "//a", "://a", ":", "http", "http:", "http:/", "http:/a", "http//a", "http:a", "http: //a", "https:\\\\a", "http:/ /a", "http;//a",
		"ftp://a", "file:///a", "httpx://a", "httpss://a", "htt://a", "xhttp://a", " http://a", "http ://a", "\thttp://a", "http\x00://a", "ws://a", "http:http://a", "http:/a?b=http://c", "view-http://a",
		"\u212attp://a", "http\u017f://a", "closed:1", "data:x", "%68ttp://a", "http+s://a",
	} {
		refused(t, in, api.ErrScheme)
	}
	if u, e := url.Parse(nil); !same(u, url.URL{}) || e != api.ErrScheme {
		t.Errorf("Parse(nil): %q, %d", u.Text(), int(e))
	}
}

func TestPorts(t *testing.T) {
	for _, c := range []struct{ in, want string }{
		{"http://a:80/", "http://a/"}, {"http://a:443/", "http://a:443/"}, {"http://a:8080/", "http://a:8080/"},
		{"https://a:443/", "https://a/"}, {"https://a:80/", "https://a:80/"}, {"HTTPS://a:443", "https://a/"}, {"HTTP://a:80", "http://a/"},
		{"http://a:1/", "http://a:1/"}, {"http://a:65535/", "http://a:65535/"}, {"http://a:9?q", "http://a:9/?q"}, {"http://a:9#f", "http://a:9/#f"},
		{"http://a:79", "http://a:79/"}, {"http://a:81", "http://a:81/"}, {"https://a:442", "https://a:442/"}, {"https://a:444", "https://a:444/"},
	} {
		parses(t, c.in, c.want)
	}
	for _, port := range []string{"0", "65536", "65537", "99999", "100000", "", "080", "00", "01", "+80", "-80", " 80", "80 ", "8 0", "80a", "a", "0x50", "80:", ":80", "80:80", "%38%30", "8%30", "80\\", "80@b", "\u0661", "4294967376", "18446744073709551696"} {
		for _, rest := range []string{"", "/", "/b?c#d", "?q", "#f"} {
			refused(t, "http://a:"+port+rest, api.ErrForm)
		}
	}
}

func TestOwn(t *testing.T) {
	for in, want := range map[string]int{
		"http": 80, "https": 443, "HTTP": 80, "Https": 443, "httpS": 443,
		"": 0, "h": 0, "htt": 0, "httpss": 0, "ftp": 0, "http:": 0, "http://": 0, " http": 0, "http\x00": 0, "ws": 0, "80": 0, "http\u017f": 0,
	} {
		if got := url.Own([]byte(in)); got != want {
			t.Errorf("Own(%q): %d", in, got)
		}
	}
	if got := url.Own(nil); got != 0 {
		t.Error(got)
	}
}

// longHost: a host of n bytes (194 to 254), four parts, but that it may be too long.
func longHost(n int) string {
	parts := strings.Repeat(strings.Repeat("x", api.MaxPart)+".", 4)
	return "a" + parts[len(parts)-n:len(parts)-1]
}

func TestHosts(t *testing.T) {
	for _, in := range []string{
		"", ".", "a..b", "a.", ".a", "-a", "a-", "a_b", "a b", " a", "a ", "\ta", "1.2.3", "256.1.1.1", "01.2.3.4", "1", "a.1", "*.a", "a%62", "%61", "u@a", "u@", "@a", "[", "[]", "a\\b", "\\a", "\u00e9", "\x00", "\xff",
		"a.b.c.d.e.f.g.h.i", strings.Repeat("x", api.MaxPart+1),
	} {
		for _, rest := range []string{"", ":80", ":81", "/", "/b", "?q", "#f"} {
			refused(t, "http://"+in+rest, api.ErrForm)
		}
	}
	refused(t, "http://[::1]/", api.ErrForm)
	refused(t, "http://u:p@a/", api.ErrForm)
	refused(t, "http:////a", api.ErrForm)
	longest := longHost(api.MaxHost)
	parses(t, "http://"+strings.ToUpper(longest), "http://"+longest+"/")
	parses(t, "https://"+longest+":1?q#f", "https://"+longest+":1/?q#f")
	parses(t, "http://a.b.c.d.e.f.g.h/", "http://a.b.c.d.e.f.g.h/")
	for _, rest := range []string{"", ":80", "/", "?q", "#f"} {
		refused(t, "http://"+longHost(api.MaxHost+1)+rest, api.ErrLong)
		refused(t, "http://"+strings.Repeat(".", api.MaxHost+1)+rest, api.ErrLong)
		refused(t, "http://"+strings.Repeat(".", api.MaxHost)+rest, api.ErrForm)
	}
}

// Of several errors the one that the chapter names first is told.
func TestOrderOfErrors(t *testing.T) {
	badRests := []string{":", ":0", ":65536", "/%", "/%4", "/%4g/", "?%", "?%g4", "#%", "#%4", ":0/%?%#%", "/a?b#%", "/a?%#b"}
	for _, bad := range badRests {
		refused(t, "http://a"+bad, api.ErrForm)
		refused(t, "ftp://a"+bad, api.ErrScheme)
		refused(t, "ftp://"+longHost(api.MaxHost+1)+bad, api.ErrScheme)
		refused(t, "http://"+longHost(api.MaxHost+1)+bad, api.ErrLong)
		refused(t, "http://-"+bad, api.ErrForm)
		refused(t, filled("http://a"+bad+"?", api.MaxText+1), api.ErrLong)
	}
	for _, in := range []string{"ftp://a/", "a", "://", "http://-/", "http://a:0/", "http://a/%", " "} {
		refused(t, filled(in, api.MaxText+1), api.ErrLong)
	}
	refused(t, filled("ftp://a/", api.MaxText), api.ErrScheme)
	refused(t, filled("ftp://", api.MaxText), api.ErrScheme)
	refused(t, filled("http://-/", api.MaxText), api.ErrForm)
	refused(t, filled("http://a:0/", api.MaxText), api.ErrForm)
	refused(t, filled("http://a/%", api.MaxText), api.ErrForm)
}

func TestPercents(t *testing.T) {
	parses(t, "http://a/%7e%2f %41%c3%A9\u00e9", "http://a/~%2F%20A%C3%A9%C3%A9")
	parses(t, "http://a?%7e%2f %41%c3%A9\u00e9", "http://a/?~%2F%20A%C3%A9%C3%A9")
	parses(t, "http://a#%7e%2f %41%c3%A9\u00e9", "http://a/#~%2F%20A%C3%A9%C3%A9")
	parses(t, "http://a/%3f%23%25%2e?%3F%23%25%2e#%3f%23%25%2E", "http://a/%3F%23%25.?%3F%23%25.#%3F%23%25.")
	parses(t, "http://a/\\[\"]^?\\[\"]^#\\[\"]^", "http://a/%5C%5B%22%5D%5E?%5C%5B%22%5D%5E#%5C%5B%22%5D%5E")
	const marks = "/:@!$&'()*+,;=-._~"
	parses(t, "http://a/b"+marks+"?"+marks+"?#"+marks+"?", "http://a/b"+marks+"?"+marks+"?#"+marks+"?")
	parses(t, "http://a/\x00\xff?\x00\xff#\x00\xff", "http://a/%00%FF?%00%FF#%00%FF")
	for _, bad := range []string{"%", "%4", "%%41", "%4g", "%g4", "%2", "a%", "%41%", "% 41"} {
		for _, at := range []string{"/", "?", "#", "/b/", "/b/../", "/?", "/#", "?#"} {
			refused(t, "http://a"+at+bad, api.ErrForm)
			refused(t, "http://a"+at+bad+"/c", api.ErrForm)
		}
	}
	for _, in := range []string{"/%4/1", "/%/41", "/%4?1", "?%4#1", "/%#41", "/%2/..", "/%/../b", "/%./.."} {
		refused(t, "http://a"+in, api.ErrForm)
	}
}

func TestPaths(t *testing.T) {
	for _, c := range []struct{ in, want string }{
		{"", "/"}, {"/", "/"}, {"//", "//"}, {"///", "///"}, {"/a", "/a"}, {"/a/", "/a/"}, {"/a//", "/a//"}, {"//a", "//a"}, {"/a//b", "/a//b"},
		{"/.", "/"}, {"/./", "/"}, {"/./.", "/"}, {"/./a", "/a"}, {"/a/.", "/a/"}, {"/a/./", "/a/"}, {"/a/./b", "/a/b"}, {"/./a/././b/.", "/a/b/"}, {"/a//.", "/a//"}, {"//.", "//"},
		{"/..", "/"}, {"/../", "/"}, {"/../..", "/"}, {"/../../", "/"}, {"/../a", "/a"}, {"/../../a", "/a"}, {"/../a/..", "/"}, {"/..//a", "//a"}, {"/..//", "//"},
		{"/a/..", "/"}, {"/a/../", "/"}, {"/a/../b", "/b"}, {"/a/b/..", "/a/"}, {"/a/b/../", "/a/"}, {"/a/b/../c", "/a/c"}, {"/a/b/../..", "/"}, {"/a/b/../../..", "/"}, {"/a/b/../../../c", "/c"},
		{"/a/b/c/../../d", "/a/d"}, {"/a/../b/../c", "/c"}, {"/a/../..", "/"}, {"/a/../../b", "/b"},
		{"//..", "/"}, {"//../", "/"}, {"//../a", "/a"}, {"/a//..", "/a/"}, {"/a//../b", "/a/b"}, {"/a//../..", "/"}, {"/a//..//", "/a//"}, {"///..", "//"}, {"///../..", "/"},
		{"/./..", "/"}, {"/../.", "/"}, {"/a/./..", "/"}, {"/a/.././b", "/b"}, {"/a/b/./..", "/a/"}, {"/a/./../b", "/b"}, {"/a/b/.././", "/a/"},
		{"/...", "/..."}, {"/....", "/...."}, {"/.../..", "/"}, {"/a..", "/a.."}, {"/..a", "/..a"}, {"/.a", "/.a"}, {"/a.", "/a."}, {"/a../b", "/a../b"}, {"/..a/b", "/..a/b"}, {"/.a/..", "/"}, {"/. .", "/.%20."}, {"/ ..", "/%20.."}, {"/.. ", "/..%20"},
		{"/%2e", "/"}, {"/%2E", "/"}, {"/a/%2e", "/a/"}, {"/a/%2e/b", "/a/b"}, {"/a/%2e%2e", "/"}, {"/a/%2E%2e/b", "/b"}, {"/a/.%2e", "/"}, {"/a/%2E.", "/"}, {"/a/.%2E/b", "/b"}, {"/%2e%2e/a", "/a"}, {"/%2e%2e", "/"}, {"/%2e%2e%2e", "/..."}, {"/%2ea", "/.a"},
		{"/a/%252e%252e", "/a/%252e%252e"}, {"/a%2f../b", "/a%2F../b"}, {"/a/%2f/..", "/a/"}, {"/a%2f..", "/a%2F.."}, {"/a/..%2fb", "/a/..%2Fb"}, {"/a/\\../b", "/a/%5C../b"}, {"/a/..;/b", "/a/..;/b"}, {"/%61/%2e%2E/%62", "/b"},
		{"/:", "/:"}, {"/a:b@c", "/a:b@c"}, {"/b://c/..", "/b://"},
	} {
		parses(t, "http://h"+c.in, "http://h"+c.want)
		parses(t, "http://h"+c.in+"?../.", "http://h"+c.want+"?../.")
		parses(t, "http://h"+c.in+"#/a/../b", "http://h"+c.want+"#/a/../b")
	}
}

func TestQueriesAndFragments(t *testing.T) {
	for _, c := range []struct{ in, want string }{
		{"?", "?"}, {"#", "#"}, {"?#", "?#"}, {"??", "??"}, {"##", "#%23"}, {"?#?", "?#?"}, {"#?", "#?"}, {"#?#", "#?%23"}, {"?a?b", "?a?b"}, {"#a#b#", "#a%23b%23"},
		{"?/../a/./b", "?/../a/./b"}, {"#/../a/./b", "#/../a/./b"}, {"?A#B", "?A#B"}, {"?a b", "?a%20b"}, {"#a b", "#a%20b"}, {"?:8", "?:8"}, {"#:8", "#:8"}, {"?//b", "?//b"}, {"#//b", "#//b"},
	} {
		parses(t, "http://h"+c.in, "http://h/"+c.want)
		parses(t, "http://h:8"+c.in, "http://h:8/"+c.want)
		parses(t, "http://h/p"+c.in, "http://h/p"+c.want)
	}
}

func TestLengths(t *testing.T) {
	for _, begin := range []string{"http://a/", "HTTPS://A.org:65535/", "http://a/?", "http://a/#", "http://a/x/?y#", "http://a:1/"} {
		in := filled(begin, api.MaxText)
		parses(t, in, strings.ToLower(begin)+in[len(begin):])
		refused(t, filled(begin, api.MaxText+1), api.ErrLong)
	}
	refused(t, filled("http://a/", 1<<20), api.ErrLong)
	refused(t, strings.Repeat("/", 1<<20), api.ErrLong)
	// Too long, though its canon wouldn't be.
	refused(t, "http://a/"+strings.Repeat("./", api.MaxText), api.ErrLong)
	refused(t, filled("http://a:80/", api.MaxText+1), api.ErrLong)
	parses(t, "http://a/"+strings.Repeat("%2e/", 1000), "http://a/")
	parses(t, "http://a/"+strings.Repeat("b/", 1000)+strings.Repeat("../", 500), "http://a/"+strings.Repeat("b/", 500))
}

// Nothing is parsed whose text would be too long to be parsed.
func TestLongCanons(t *testing.T) {
	for _, c := range []struct{ begin, piece string }{{"http://a/", " "}, {"http://a/?", "\""}, {"http://a/#", "#"}, {"https://a:80/b?c#", "\xff"}} {
		begin, piece := filled(c.begin, api.MaxText-3*1000), c.piece
		parses(t, begin+strings.Repeat(piece, 1000), begin+strings.Repeat("%"+strings.ToUpper(hexadecimal(piece[0])), 1000))
		refused(t, begin+"x"+strings.Repeat(piece, 1000), api.ErrLong)
		refused(t, begin+strings.Repeat(piece, 1001), api.ErrLong)
	}
	parses(t, filled("http://a?", api.MaxText-1), filled("http://a/?", api.MaxText))
	refused(t, filled("http://a?", api.MaxText), api.ErrLong)
	refused(t, filled("http://a#", api.MaxText), api.ErrLong)
	parses(t, filled("http://a:80?", api.MaxText), filled("http://a/?", api.MaxText-2))
	refused(t, "http://a/"+strings.Repeat(" ", 4000)+"%", api.ErrForm)
	refused(t, "http://a:0/"+strings.Repeat(" ", 4000), api.ErrForm)
}

func hexadecimal(b byte) string {
	const digits = "0123456789abcdef"
	return string([]byte{digits[b>>4], digits[b&15]})
}

// P5.2

func TestResolveExamples(t *testing.T) {
	const base = "HTTPS://A.org:443/x/../y?q#f"
	resolves(t, base, "../z", "https://a.org/z")
	resolves(t, base, "?r", "https://a.org/y?r")
}

// Each way in which a text can begin, against a URL with everything.
func TestResolve(t *testing.T) {
	const base = "https://a.org:8/b/c?d#e"
	for _, c := range []struct{ in, want string }{
		{"http://x", "http://x/"}, {"HTTP://X:80/y?z#w", "http://x/y?z#w"}, {"https://a.org", "https://a.org/"}, {"http://x/../y", "http://x/y"},
		{"//x", "https://x/"}, {"//X:443/y/./z", "https://x/y/z"}, {"//x:9?q#f", "https://x:9/?q#f"}, {"//x//y", "https://x//y"},
		{"/", "https://a.org:8/"}, {"/x", "https://a.org:8/x"}, {"/../x?y#z", "https://a.org:8/x?y#z"}, {"/x//y", "https://a.org:8/x//y"}, {"/x://y", "https://a.org:8/x://y"}, {"/%2e%2E/x", "https://a.org:8/x"},
		{"?", "https://a.org:8/b/c?"}, {"?x", "https://a.org:8/b/c?x"}, {"?x#y", "https://a.org:8/b/c?x#y"}, {"?#", "https://a.org:8/b/c?#"}, {"??", "https://a.org:8/b/c??"}, {"?http://x", "https://a.org:8/b/c?http://x"}, {"?../x", "https://a.org:8/b/c?../x"},
		{"", "https://a.org:8/b/c?d"}, {"#", "https://a.org:8/b/c?d#"}, {"#x", "https://a.org:8/b/c?d#x"}, {"#?x", "https://a.org:8/b/c?d#?x"}, {"##", "https://a.org:8/b/c?d#%23"}, {"#http://x", "https://a.org:8/b/c?d#http://x"},
		{"x", "https://a.org:8/b/x"}, {"x/", "https://a.org:8/b/x/"}, {"x?y", "https://a.org:8/b/x?y"}, {"x#y", "https://a.org:8/b/x#y"}, {".", "https://a.org:8/b/"}, {"./", "https://a.org:8/b/"}, {"./x", "https://a.org:8/b/x"},
		{"..", "https://a.org:8/"}, {"../", "https://a.org:8/"}, {"../x", "https://a.org:8/x"}, {"../../x", "https://a.org:8/x"}, {"%2e%2e/x", "https://a.org:8/x"}, {".?x", "https://a.org:8/b/?x"}, {"..#x", "https://a.org:8/#x"},
		{" ", "https://a.org:8/b/%20"}, {" /x", "https://a.org:8/b/%20/x"}, {"\\x", "https://a.org:8/b/%5Cx"}, {"\xff", "https://a.org:8/b/%FF"},
		{"x:y", "https://a.org:8/b/x:y"}, {"http:x", "https://a.org:8/b/http:x"}, {"http:/x", "https://a.org:8/b/http:/x"}, {"http:", "https://a.org:8/b/http:"}, {":80", "https://a.org:8/b/:80"}, {"mailto:x@y", "https://a.org:8/b/mailto:x@y"},
		{"://x", "https://a.org:8/b/://x"}, {":", "https://a.org:8/b/:"}, {"x y://z", "https://a.org:8/b/x%20y://z"}, {"x_y://z", "https://a.org:8/b/x_y://z"}, {"x/y://z", "https://a.org:8/b/x/y://z"}, {"x:y://z", "https://a.org:8/b/x:y://z"}, {"x?y://z", "https://a.org:8/b/x?y://z"}, {"\u00e9://x", "https://a.org:8/b/%C3%A9://x"}, {" http://x", "https://a.org:8/b/%20http://x"}, {"%68://x", "https://a.org:8/b/h://x"}, {"@://x", "https://a.org:8/b/@://x"},
	} {
		resolves(t, base, c.in, c.want)
	}
}

func TestResolveErrors(t *testing.T) {
	const base = "https://a.org:8/b/c?d#e"
	for _, in := range []string{"ftp://x", "a://x", "Z9+-.://x", "+://", "-://x", ".://x", "9://x", "httpx://x", "..://x", "h://%", "x://" + longHost(254)} {
		unresolved(t, base, in, api.ErrScheme)
	}
	for _, in := range []string{"http://", "http://-", "//", "///", "///x", "//-", "//x:0", "//x:65536", "//x:", "//x://y", "//?x", "//x/%", "//#", "/%", "?%4", "#%g0", "%", "x%", "../%4g", "http://x/%", "?x#%", "//u@x"} {
		unresolved(t, base, in, api.ErrForm)
	}
	unresolved(t, base, "//"+longHost(api.MaxHost+1), api.ErrLong)
	unresolved(t, base, "http://"+longHost(api.MaxHost+1), api.ErrLong)
}

// Whatever the URL lacks that a text is resolved against.
func TestResolveAgainstOthers(t *testing.T) {
	for _, c := range []struct{ base, in, want string }{
		{"http://h", "", "http://h/"}, {"http://h", "#x", "http://h/#x"}, {"http://h", "?x", "http://h/?x"}, {"http://h", "x", "http://h/x"}, {"http://h", "/x", "http://h/x"}, {"http://h", "//x", "http://x/"}, {"http://h", ".", "http://h/"},
		{"http://h/a", "x", "http://h/x"}, {"http://h/a/", "x", "http://h/a/x"}, {"http://h/a/", "..", "http://h/"}, {"http://h/a/", "../x", "http://h/x"}, {"http://h/a/b/c", "../x", "http://h/a/x"}, {"http://h/a//", "x", "http://h/a//x"}, {"http://h/a//", "../x", "http://h/a/x"}, {"http://h/a//b", "..", "http://h/a/"}, {"http://h//", "..", "http://h/"},
		{"http://h/a?", "", "http://h/a?"}, {"http://h/a?", "#", "http://h/a?#"}, {"http://h/a?b/c", "x", "http://h/x"}, {"http://h/a#b/c", "x", "http://h/x"}, {"http://h/a#b", "", "http://h/a"}, {"http://h/a#", "", "http://h/a"}, {"http://h/a?b#", "", "http://h/a?b"}, {"http://h/a?b#c", "?", "http://h/a?"}, {"http://h/a/b?c/d", "..", "http://h/"},
		{"http://h:80/a", "/x", "http://h/x"}, {"http://h:443/a", "/x", "http://h:443/x"}, {"http://h:443/a", "//x", "http://x/"}, {"https://h:80/a", "x", "https://h:80/x"}, {"https://h:80/a", "//h", "https://h/"}, {"https://h:80/a", "#", "https://h:80/a#"},
		{"http://1.2.3.4/a%2Fb", "x", "http://1.2.3.4/x"}, {"http://h/a%2Fb/c", "..", "http://h/"}, {"http://h/a?%20#%20", "", "http://h/a?%20"},
	} {
		resolves(t, c.base, c.in, c.want)
	}
	if u, e := parsed(t, "http://h/a?b#c").Resolve(nil); string(u.Text()) != "http://h/a?b" || e != api.OK {
		t.Errorf("Resolve(nil): %q, %d", u.Text(), int(e))
	}
}

// What RFC 3986 (5.4) shows, where the chapter says the same.
func TestResolveAsUsual(t *testing.T) {
	const base = "http://a/b/c/d;p?q"
	for _, c := range []struct{ in, want string }{
		{"g", "http://a/b/c/g"}, {"./g", "http://a/b/c/g"}, {"g/", "http://a/b/c/g/"}, {"/g", "http://a/g"}, {"//g", "http://g/"}, {"?y", "http://a/b/c/d;p?y"}, {"g?y", "http://a/b/c/g?y"}, {"#s", "http://a/b/c/d;p?q#s"}, {"g#s", "http://a/b/c/g#s"}, {"g?y#s", "http://a/b/c/g?y#s"},
		{";x", "http://a/b/c/;x"}, {"g;x", "http://a/b/c/g;x"}, {"g;x?y#s", "http://a/b/c/g;x?y#s"}, {"", "http://a/b/c/d;p?q"}, {".", "http://a/b/c/"}, {"./", "http://a/b/c/"}, {"..", "http://a/b/"}, {"../", "http://a/b/"}, {"../g", "http://a/b/g"}, {"../..", "http://a/"}, {"../../", "http://a/"}, {"../../g", "http://a/g"},
		{"../../../g", "http://a/g"}, {"../../../../g", "http://a/g"}, {"/./g", "http://a/g"}, {"/../g", "http://a/g"}, {"g.", "http://a/b/c/g."}, {".g", "http://a/b/c/.g"}, {"g..", "http://a/b/c/g.."}, {"..g", "http://a/b/c/..g"},
		{"./../g", "http://a/b/g"}, {"./g/.", "http://a/b/c/g/"}, {"g/./h", "http://a/b/c/g/h"}, {"g/../h", "http://a/b/c/h"}, {"g;x=1/./y", "http://a/b/c/g;x=1/y"}, {"g;x=1/../y", "http://a/b/c/y"}, {"g?y/./x", "http://a/b/c/g?y/./x"}, {"g?y/../x", "http://a/b/c/g?y/../x"}, {"g#s/./x", "http://a/b/c/g#s/./x"}, {"g#s/../x", "http://a/b/c/g#s/../x"},
	} {
		resolves(t, base, c.in, c.want)
	}
}

func TestResolveLengths(t *testing.T) {
	room := api.MaxText - len("http://a/b/")
	resolves(t, "http://a/b/c?d#e", filled("", room), "http://a/b/"+filled("", room))
	unresolved(t, "http://a/b/c?d#e", filled("", room+1), api.ErrLong)
	resolves(t, "http://a/b/c", filled("http://x/", api.MaxText), filled("http://x/", api.MaxText))
	unresolved(t, "http://a/b/c", filled("http://x/", api.MaxText+1), api.ErrLong)
	unresolved(t, "http://a/b/c", filled("ftp://x/", api.MaxText+1), api.ErrLong)
	resolves(t, "http://a/b/c", filled("//x/", api.MaxText-len("http:")), filled("http://x/", api.MaxText))
	unresolved(t, "http://a/b/c", filled("//x/", api.MaxText-len("http:")+1), api.ErrLong)
	long := filled("http://a/", api.MaxText)
	resolves(t, long, "", long)
	resolves(t, long, "x", "http://a/x")
	resolves(t, long, "/x", "http://a/x")
	unresolved(t, long, "#", api.ErrLong)
	unresolved(t, long, "?", api.ErrLong)
}

func TestBare(t *testing.T) {
	for _, c := range []struct{ in, want string }{
		{"http://a/b?c#d", "http://a/b?c"}, {"http://a/b?c", "http://a/b?c"}, {"http://a/b#d", "http://a/b"}, {"http://a/b#", "http://a/b"}, {"http://a?#", "http://a/?"}, {"https://a:1#x", "https://a:1/"}, {"http://a", "http://a/"},
	} {
		u := parsed(t, c.in)
		if got := u.Bare(); !same(got, parsed(t, c.want)) {
			t.Errorf("Bare of %q: %q", c.in, got.Text())
		}
		if got := u.Bare().Bare(); !same(got, u.Bare()) {
			t.Errorf("Bare of Bare of %q: %q", c.in, got.Text())
		}
		if !same(u, parsed(t, c.in)) {
			t.Errorf("Bare changes %q", c.in)
		}
	}
	if got := (url.URL{}).Bare(); !same(got, url.URL{}) {
		t.Errorf("Bare of nothing: %q", got.Text())
	}
}
