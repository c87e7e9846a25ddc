package url_test

import (
	"bytes"
	"math"
	"regexp"
	"strconv"
	"strings"
	"testing"

	"cordon/api"
	"cordon/host"
	"cordon/percent"
	"cordon/url"
)

// shortTexts: all texts of up to most bytes of these.
func shortTexts(of string, most int) []string {
	l := []string{""}
	for from := 0; most > 0; most-- {
		to := len(l)
		for _, t := range l[from:to] {
			for i := range len(of) {
				l = append(l, t+of[i:i+1])
			}
		}
		from = to
	}
	return l
}

// paths: all paths of up to most of these pieces.
func paths(most int, pieces ...string) []string {
	l := []string{""}
	for from := 0; most > 0; most-- {
		to := len(l)
		for _, t := range l[from:to] {
			for _, p := range pieces {
				l = append(l, t+"/"+p)
			}
		}
		from = to
	}
	return l
}

// ahead: a text ahead of each.
func ahead(of string, l []string) []string {
	var all []string
	for _, t := range l {
		all = append(all, of+t)
	}
	return all
}

// bent: a text with each byte left out, made another one, or with another one ahead of it.
func bent(text string) []string {
	var l []string
	for i := range text {
		l = append(l, text[:i]+text[i+1:])
		for b := range 256 {
			other := string([]byte{byte(b)})
			l = append(l, text[:i]+other+text[i:], text[:i]+other+text[i+1:])
		}
	}
	return l
}

// manyTexts: some that are URLs, and many that are nearly.
func manyTexts() []string {
	l := ahead("http://", shortTexts("aZ1:/?#.-", 5))
	l = append(l, ahead("http://h", shortTexts("a80:/?#.", 5))...)
	l = append(l, ahead("HTTPS://h:443/", shortTexts("a/.%2eE", 5))...)
	l = append(l, ahead("https://H", paths(4, "", ".", "..", "a", "%2e", ".%2E", "...", "%2e%2F"))...)
	l = append(l, ahead("http://a/", shortTexts("?#%41 ", 5))...)
	l = append(l, bent("http://a.b:81/c/../d?e%2f#f")...)
	return append(l, bent("HTTPS://1.2.3.4:443?#")...)
}

// The chapter's words, as the library's patterns.
var (
	schemed = regexp.MustCompile(`(?s)\A([Hh][Tt][Tt][Pp][Ss]?)://(.*)\z`)
	rest    = regexp.MustCompile(`(?s)\A([^:/?#]*)(?::([^/?#]*))?(/[^?#]*)?(\?[^#]*)?(#.*)?\z`)
	porting = regexp.MustCompile(`\A[1-9][0-9]{0,4}\z`)
)

// undotted: a path without dots, step by step as RFC 3986 (5.2.4) has it.
func undotted(path string) string {
	out := ""
	for path != "" {
		switch {
		case strings.HasPrefix(path, "/./"):
			path = path[2:]
		case path == "/.":
			path = "/"
		case strings.HasPrefix(path, "/../"):
			path = path[3:]
			out = out[:max(strings.LastIndex(out, "/"), 0)]
		case path == "/..":
			path = "/"
			out = out[:max(strings.LastIndex(out, "/"), 0)]
		default:
			i := strings.Index(path[1:], "/") + 1
			if i == 0 {
				i = len(path)
			}
			out += path[:i]
			path = path[i:]
		}
	}
	return out
}

// inCanon: the canon of a part with its mark ahead; false: it is of no form.
func inCanon(part string, p percent.Place) (string, bool) {
	if part == "" {
		return "", true
	}
	canon, e := percent.Canon([]byte(part[1:]), p)
	return part[:1] + string(canon), e == api.OK
}

// canonText: the text of the URL that a short text is, by the patterns.
func canonText(text string) (string, api.Errno) {
	m := schemed.FindStringSubmatch(text)
	if m == nil {
		return "", api.ErrScheme
	}
	scheme := strings.ToLower(m[1])
	at := rest.FindStringSubmatchIndex(m[2])
	if at == nil {
		return "", api.ErrForm
	}
	part := func(i int) string {
		if at[2*i] < 0 {
			return ""
		}
		return m[2][at[2*i]:at[2*i+1]]
	}
	name, e := host.Parse([]byte(part(1)))
	if e != api.OK {
		return "", e
	}
	server := scheme + "://" + string(name)
	if at[4] >= 0 {
		n, _ := strconv.Atoi(part(2))
		if !porting.MatchString(part(2)) || n > 65535 {
			return "", api.ErrForm
		}
		if n != map[string]int{"http": 80, "https": 443}[scheme] {
			server += ":" + part(2)
		}
	}
	path, ok := inCanon(part(3), percent.Path)
	query, okToo := inCanon(part(4), percent.Query)
	fragment, okThree := inCanon(part(5), percent.Query)
	if !ok || !okToo || !okThree {
		return "", api.ErrForm
	}
	if path == "" {
		path = "/"
	}
	return server + undotted(path) + query + fragment, api.OK
}

// P5.1 once more, of many texts; and P5.3: the text of what is parsed is parsed to the same.

func TestManyTexts(t *testing.T) {
	for _, text := range manyTexts() {
		want, errno := canonText(text)
		u, e := url.Parse([]byte(text))
		if e != errno || e == api.OK && string(u.Text()) != want || e != api.OK && !same(u, url.URL{}) {
			t.Errorf("Parse(%q): %q, %d, not %q, %d", text, u.Text(), int(e), want, int(errno))
		}
		if e == api.OK {
			isCanon(t, u)
		}
	}
}

// isCanon: a URL's text is parsed to it, and its fields are such as a canon has.
func isCanon(t *testing.T, u url.URL) {
	t.Helper()
	text := u.Text()
	if again, e := url.Parse(text); !same(again, u) || e != api.OK || !bytes.Equal(again.Text(), text) {
		t.Errorf("Parse(%q): %q, %d", text, again.Text(), int(e))
	}
	if len(text) > api.MaxText || len(u.Path) == 0 || u.Path[0] != '/' || u.Port < 1 || u.Port > 65535 || !u.HasQuery && len(u.Query) > 0 || !u.HasFragment && len(u.Fragment) > 0 {
		t.Errorf("%q is no canon", text)
	}
}

// Each byte, and each byte encoded with small letters, wherever bytes may stand.
func TestEachByte(t *testing.T) {
	for i := range 256 {
		b := string([]byte{byte(i)})
		for _, in := range []string{b, "%" + hexadecimal(byte(i)), "x" + b + "y", "%" + strings.ToUpper(hexadecimal(byte(i))) + "z"} {
			for _, begin := range []string{"http://a/", "http://a/b/", "http://a?", "http://a/#", "https://a/?b#c"} {
				want, errno := canonText(begin + in)
				u, e := url.Parse([]byte(begin + in))
				if e != errno || e == api.OK && string(u.Text()) != want {
					t.Errorf("Parse(%q): %q, %d, not %q, %d", begin+in, u.Text(), int(e), want, int(errno))
				}
				if e == api.OK {
					isCanon(t, u)
				}
			}
		}
	}
}

// P5.3 of texts that grow, up to the longest ones and beyond.
func TestGrowingTexts(t *testing.T) {
	for _, begin := range []string{"http://a/", "http://a?", "http://a#", "https://a:80/b/?c#"} {
		for _, piece := range []string{" ", "%7e", "/", "/.", "/..", "x", "%2f", "\xff", "#?", "a/b/../"} {
			for n := 1; n <= api.MaxText; n += 1 + n/7 {
				u, e := url.Parse([]byte(begin + strings.Repeat(piece, n)))
				if e == api.OK {
					isCanon(t, u)
				} else if e != api.ErrLong || len(begin)+3*n*len(piece) < api.MaxText {
					t.Errorf("%d times %q behind %q: %d", n, piece, begin, int(e))
				}
			}
		}
	}
}

// P5.2 once more, of all short texts.

var beginnings = regexp.MustCompile(`(?s)\A(?:([A-Za-z0-9+.-]+://.*)|(//.*)|(/.*)|(\?.*)|((?:#.*)?)|(.*))\z`)

// resolvedText: what a text is, put behind what the chapter's table says of a URL's text.
func resolvedText(base, text string) string {
	bare, _, _ := strings.Cut(base, "#")
	withPath, _, _ := strings.Cut(bare, "?")
	scheme, _, _ := strings.Cut(base, "//")
	server := withPath[:len(scheme+"//")+strings.Index(withPath[len(scheme+"//"):], "/")]
	folder := withPath[:strings.LastIndex(withPath, "/")+1]
	at := beginnings.FindStringSubmatchIndex(text)
	for i, begin := range []string{"", scheme, server, withPath, bare, folder} {
		if at[2*(i+1)] >= 0 {
			return begin + text
		}
	}
	return ""
}

func bases() []string {
	return []string{
		"http://a.b/", "https://a.b/c/d?e#f", "http://a:81/c/d/?e/f?g", "https://1.2.3.4/c//d#/e?", "http://a//", "http://a/?", "http://a/#", "http://a:443/b%2Fc/%2520?d%20#e%23",
	}
}

func TestResolveManyTexts(t *testing.T) {
	texts := append(shortTexts("a:/?#.", 5), shortTexts("b%2eE/", 4)...)
	texts = append(texts, ahead("..", paths(3, "", ".", "..", "x"))...)
	texts = append(texts, bent("a+.-9://x")...)
	texts = append(texts, "HTTPS://B:443/./c", "http://b", "//B:80/c?d#e", "ftp://b", "//b:99999", "/c/%zz")
	for _, base := range bases() {
		u := parsed(t, base)
		if string(u.Text()) != base {
			t.Fatal(base)
		}
		for _, text := range texts {
			want, errno := url.Parse([]byte(resolvedText(base, text)))
			got, e := u.Resolve([]byte(text))
			if !same(got, want) || e != errno {
				t.Errorf("%q from %q: %q, %d, not %q, %d", text, base, got.Text(), int(e), want.Text(), int(errno))
			}
		}
	}
}

// What is resolved is a canon again, against which texts are resolved.
func TestResolvedFromResolved(t *testing.T) {
	for _, base := range bases() {
		u := parsed(t, base)
		for _, text := range []string{"x/y", "../z?q", "#f", "", "?r", "//b:8", "/s/./t/", "..", "http://c/%2e/"} {
			next, e := u.Resolve([]byte(text))
			if e != api.OK {
				t.Fatalf("%q from %q: %d", text, u.Text(), int(e))
			}
			isCanon(t, next)
			isCanon(t, next.Bare())
			if itself, e := u.Resolve(next.Text()); !same(itself, next) || e != api.OK {
				t.Errorf("%q from %q: %q, %d", next.Text(), u.Text(), itself.Text(), int(e))
			}
			u = next
		}
	}
}

// R1: any URL, any text.

func TestAnyURL(t *testing.T) {
	made := []url.URL{
		{}, {Port: -1}, {Port: math.MinInt}, {Port: math.MaxInt, HasQuery: true, HasFragment: true}, {Scheme: []byte("http")}, {Scheme: []byte("ftp"), Host: []byte("a")}, {Path: []byte("/")},
		{Scheme: []byte("HTTP"), Host: []byte("A"), Port: 80, Path: []byte("x"), Query: []byte("y"), Fragment: []byte("z")}, {Scheme: []byte("://"), Host: []byte("#?%"), Path: []byte("%/%"), Query: []byte{0xff}, HasQuery: true},
		{Path: bytes.Repeat([]byte("/.."), 1<<16), HasFragment: true}, {Scheme: []byte{}, Host: []byte{}, Path: []byte{}, Query: []byte{}, Fragment: []byte{}},
	}
	for _, u := range made {
		u.Text()
		if got := u.Bare(); got.HasFragment || len(got.Fragment) > 0 || got.Port != u.Port || !bytes.Equal(got.Path, u.Path) {
			t.Errorf("Bare of %.80q: %.80q", u.Text(), got.Text())
		}
		for _, text := range append(shortTexts("a:/?#.", 3), "http://b/c", "ftp://b", "\x00\xff") {
			if got, e := u.Resolve([]byte(text)); e != api.OK && !same(got, url.URL{}) {
				t.Errorf("%q from %.80q: %d, and %q", text, u.Text(), int(e), got.Text())
			}
		}
	}
}

// R4: memory.

// roomy: a text with spare room behind it that isn't empty, and all of its memory.
func roomy(text string) (handedIn, memory []byte) {
	memory = []byte("<" + text + "/spare?room#more")
	return memory[1 : 1+len(text)], memory
}

// roomyURL: a URL each of whose texts has such room, and the memory of each.
func roomyURL(t *testing.T, text string) (url.URL, [][]byte) {
	u := parsed(t, text)
	var memory [][]byte
	for _, field := range []*[]byte{&u.Scheme, &u.Host, &u.Path, &u.Query, &u.Fragment} {
		in, all := roomy(string(*field))
		*field = in
		memory = append(memory, all)
	}
	return u, memory
}

func textsOf(u url.URL) [][]byte {
	return [][]byte{u.Scheme, u.Host, u.Path, u.Query, u.Fragment}
}

// spoil: overwrites all that a slice reaches.
func spoil(l ...[]byte) {
	for _, b := range l {
		b = b[:cap(b)]
		for i := range b {
			b[i] = '!'
		}
	}
}

// copies: slices' bytes, in memory of their own.
func copies(l [][]byte) []string {
	var all []string
	for _, b := range l {
		all = append(all, string(b))
	}
	return all
}

// unchanged: are slices' bytes those that were copied?
func unchanged(t *testing.T, what string, l [][]byte, want []string) {
	t.Helper()
	for i, b := range l {
		if string(b) != want[i] {
			t.Errorf("%s: text %d has become %q, and was %q", what, i, b, want[i])
		}
	}
}

// calls: each call of the package on a URL and a text, with all byte slices that it answers.
func calls() map[string]func(u url.URL, in []byte) [][]byte {
	return map[string]func(u url.URL, in []byte) [][]byte{
		"Parse": func(_ url.URL, in []byte) [][]byte {
			u, _ := url.Parse(in)
			return textsOf(u)
		},
		"Resolve": func(u url.URL, in []byte) [][]byte {
			u, _ = u.Resolve(in)
			return textsOf(u)
		},
		"Text": func(u url.URL, _ []byte) [][]byte { return [][]byte{u.Text()} },
		"Bare": func(u url.URL, _ []byte) [][]byte { return textsOf(u.Bare()) },
		"Own": func(u url.URL, in []byte) [][]byte {
			url.Own(u.Scheme)
			url.Own(in)
			return nil
		},
	}
}

func mixedTexts() []string {
	return []string{
		"", "#f", "?q", "?q#f", "/p", "/../p?q#f", "//h", "//h:8/p?q#f", "x/../y", "..", "http://h", "HTTPS://H.org:443/p/./r%7e?q%2f#f", "http://h:8?#", "ftp://h", "http://", "%", "http", "HTTP",
	}
}

// eachCall: goes through all calls with a URL and a text in memory with spare room.
func eachCall(t *testing.T, f func(what string, answer func() [][]byte, handedIn [][]byte)) {
	for name, call := range calls() {
		for _, base := range []string{"http://a", "https://b.org:8/c/d?e#f"} {
			for _, text := range mixedTexts() {
				u, memory := roomyURL(t, base)
				in, all := roomy(text)
				f(name+" of "+text+" from "+base, func() [][]byte { return call(u, in) }, append(memory, all))
			}
		}
	}
}

func TestNothingHandedInIsChanged(t *testing.T) {
	eachCall(t, func(what string, answer func() [][]byte, handedIn [][]byte) {
		before := copies(handedIn)
		answer()
		unchanged(t, what, handedIn, before)
	})
}

func TestAnswersAreNewMemory(t *testing.T) {
	eachCall(t, func(what string, answer func() [][]byte, handedIn [][]byte) {
		before := copies(handedIn)
		first, second := answer(), answer()
		want := copies(second)
		for i := range first {
			unchanged(t, what+", the first answer's", first[i:], want[i:])
			spoil(first[i])
		}
		unchanged(t, what+", what was handed in", handedIn, before)
		unchanged(t, what+", the second answer's", second, want)
		spoil(handedIn...)
		unchanged(t, what+", the second answer's", second, want)
	})
}

// Bytes behind the end of a text are none of it.
func TestSpareRoomIsNotRead(t *testing.T) {
	for _, c := range []struct{ in, want string }{{"http://a", "http://a/"}, {"http://a:8", "http://a:8/"}, {"http://a/b", "http://a/b"}, {"http://a?", "http://a/?"}} {
		in, _ := roomy(c.in)
		if u, e := url.Parse(in); string(u.Text()) != c.want || e != api.OK {
			t.Errorf("Parse(%q): %q, %d", c.in, u.Text(), int(e))
		}
	}
	in := []byte("http://a/%41")
	for n := len(in) - 2; n < len(in); n++ {
		if u, e := url.Parse(in[:n]); e != api.ErrForm {
			t.Errorf("Parse(%q): %q, %d", in[:n], u.Text(), int(e))
		}
	}
	if u, e := url.Parse(in[:4]); e != api.ErrScheme {
		t.Errorf("Parse(%q): %q, %d", in[:4], u.Text(), int(e))
	}
}
