package origin_test

import (
	"bytes"
	"math"
	"regexp"
	"strconv"
	"strings"
	"testing"

	"cordon/api"
	"cordon/host"
	"cordon/origin"
	"cordon/url"
)

// shortTexts: all texts of up to most of these pieces.
func shortTexts(most int, pieces ...string) []string {
	l := []string{""}
	for from := 0; most > 0; most-- {
		to := len(l)
		for _, t := range l[from:to] {
			for _, p := range pieces {
				l = append(l, t+p)
			}
		}
		from = to
	}
	return l
}

// ahead: a text ahead of each.
func ahead(of string, l []string) []string {
	var all []string
	for _, t := range l {
		all = append(all, of+t)
	}
	return all
}

// bent: a text with each byte left out, made another one, or with another one ahead of it.
func bent(text string) []string {
	var l []string
	for i := range text {
		l = append(l, text[:i]+text[i+1:])
		for b := range 256 {
			other := string([]byte{byte(b)})
			l = append(l, text[:i]+other+text[i:], text[:i]+other+text[i+1:])
		}
	}
	return l
}

// manyTexts: some that are origins', and many that are nearly.
func manyTexts() []string {
	l := shortTexts(4, "http", "HTTPS", "closed", ":", "//", "://", "a", "7", "/")
	l = append(l, ahead("http://", shortTexts(5, "a", "Z", "1", ":", "/", "?", "#", ".", "-"))...)
	l = append(l, ahead("HTTPS://h:", shortTexts(5, "4", "3", "0", "a", "/", "#", ":"))...)
	l = append(l, ahead("closed:", shortTexts(5, "0", "1", "9", "a", "-", " ", "/", ":"))...)
	for _, text := range []string{"http://a.b:81", "HTTPS://1.2.3.4:443", "https://a", "http://b:80", "closed:1099511627776", "closed:7", "http://a/b?c#d"} {
		l = append(l, bent(text)...)
	}
	return l
}

// The chapter's words, as the library's patterns.
var (
	numbered = regexp.MustCompile(`(?s)\Aclosed:(.*)\z`)
	counted  = regexp.MustCompile(`\A[1-9][0-9]{0,12}\z`)
	served   = regexp.MustCompile(`\A([Hh][Tt][Tt][Pp][Ss]?)://([^:/?#]*)(?::([^:/?#]*))?\z`)
	porting  = regexp.MustCompile(`\A[1-9][0-9]{0,4}\z`)
)

// originText: the text of the origin that a text is, by the patterns.
func originText(text string) (string, api.Errno) {
	if m := numbered.FindStringSubmatch(text); m != nil {
		n, _ := strconv.Atoi(m[1])
		if !counted.MatchString(m[1]) || n > mostClosed {
			return "", api.ErrForm
		}
		return text, api.OK
	}
	if _, e := url.Parse([]byte(text)); e != api.OK {
		return "", e
	}
	m := served.FindStringSubmatch(text)
	if m == nil {
		return "", api.ErrForm
	}
	scheme := strings.ToLower(m[1])
	name, e := host.Parse([]byte(m[2]))
	if n, _ := strconv.Atoi(m[3]); m[3] != "" && (!porting.MatchString(m[3]) || n > 65535) {
		return "", api.ErrForm
	}
	if m[3] == "" || m[3] == map[string]string{"http": "80", "https": "443"}[scheme] {
		return scheme + "://" + string(name), e
	}
	return scheme + "://" + string(name) + ":" + m[3], e
}

// P6.1 and P6.2 once more, of many texts; and P6.3: an origin's text is parsed to it.

func TestManyTexts(t *testing.T) {
	for _, text := range manyTexts() {
		want, errno := originText(text)
		o, e := origin.Parse([]byte(text))
		if e != errno || o.Text() != want || e != api.OK && o != (origin.Origin{}) {
			t.Errorf("Parse(%q): %+v, %d, not %q, %d", text, o, int(e), want, int(errno))
		}
		if beyond, _ := strconv.Atoi(strings.TrimPrefix(text, "closed:")); beyond <= mostClosed {
			principal(t, text, e == api.OK && want == text)
		}
		if e == api.OK {
			isWhole(t, o)
		}
	}
}

// isWhole: an origin's text is parsed to it, and is a principal; its URL is of it.
func isWhole(t *testing.T, o origin.Origin) {
	t.Helper()
	parses(t, o.Text(), o, o.Text())
	principal(t, o.Text(), true)
	if o.Closed > 0 && o != (origin.Origin{Closed: o.Closed}) {
		t.Errorf("%+v is closed, and more", o)
	}
	u, found := o.URL()
	if found != (o.Closed == 0) || found && (origin.Of(u) != o || string(u.Text()) != o.Text()+"/") {
		t.Errorf("URL of %+v: %q, %t", o, u.Text(), found)
	}
	if o.Closed == 0 && (o.Port < 1 || o.Port > 65535 || o.Scheme != strings.ToLower(o.Scheme) || o.Host != strings.ToLower(o.Host)) {
		t.Errorf("%+v has no canon's fields", o)
	}
}

// P6.3 of the origins of URLs, and of closed ones.

func TestTextsOfURLs(t *testing.T) {
	for _, scheme := range []string{"http", "https", "HTTP", "HTTPS"} {
		for _, name := range []string{"a", "A.Org", "1.2.3.4", "closed", "http", longHost(api.MaxHost)} {
			for _, port := range []string{"", ":1", ":7", ":79", ":80", ":81", ":442", ":443", ":444", ":65535"} {
				for _, rest := range []string{"", "/", "/x", "?y", "#z", "/x/../y?z#w"} {
					isWhole(t, origin.Of(located(t, scheme+"://"+name+port+rest)))
				}
			}
		}
	}
}

func TestTextsOfClosed(t *testing.T) {
	for n := 1; n <= 5000; n++ {
		isWhole(t, closed(t, n))
	}
	for n := 1; n <= mostClosed; n *= 2 {
		isWhole(t, closed(t, n))
	}
	for n := 9; n < mostClosed; n = 10*n + 9 {
		isWhole(t, closed(t, n))
		isWhole(t, closed(t, n+1))
	}
	isWhole(t, closed(t, mostClosed-1))
}

// Two origins are the same just if their texts are.
func TestTextsTellApart(t *testing.T) {
	seen := map[origin.Origin]string{}
	texts := map[string]origin.Origin{}
	for _, text := range manyTexts() {
		o, e := origin.Parse([]byte(text))
		if e != api.OK {
			continue
		}
		if other, found := texts[o.Text()]; found && other != o {
			t.Errorf("%+v and %+v both have the text %q", o, other, o.Text())
		}
		if other, found := seen[o]; found && other != o.Text() {
			t.Errorf("%+v has the texts %q and %q", o, other, o.Text())
		}
		seen[o], texts[o.Text()] = o.Text(), o
	}
}

// R1: any origin, any URL.

func TestAnything(t *testing.T) {
	for _, o := range []origin.Origin{
		{}, {Closed: -1}, {Closed: math.MinInt}, {Closed: math.MaxInt, Port: math.MinInt}, {Scheme: "http"}, {Host: "a"}, {Port: 80}, {Scheme: "http", Host: "a"}, {Scheme: "http", Host: "a", Port: -1}, {Scheme: "http", Host: "a", Port: 80, Closed: 7},
		{Scheme: "://", Host: "#?%", Port: math.MaxInt}, {Scheme: "\xff", Host: strings.Repeat("/", 1<<16), Port: 1},
	} {
		o.Text()
		if u, found := o.URL(); !found && !sameURL(u, url.URL{}) {
			t.Errorf("URL of %+v: nothing, and %q", o, u.Text())
		}
	}
	for _, u := range []url.URL{{}, {Port: math.MinInt}, {Scheme: []byte("\xff"), Host: bytes.Repeat([]byte("/"), 1<<16), Port: math.MaxInt, HasQuery: true}, {Scheme: []byte{}, Host: []byte{}}} {
		origin.Of(u).Text()
		origin.Of(u).URL()
	}
	for _, in := range []string{strings.Repeat("closed:", 1<<16), strings.Repeat("http://", 1<<16), strings.Repeat("\x00", 1<<16), "closed:" + strings.Repeat("9", 1<<16)} {
		if o, e := origin.Parse([]byte(in)); e == api.OK || o != (origin.Origin{}) {
			t.Errorf("Parse(%.20q..): %+v, %d", in, o, int(e))
		}
		principal(t, in, false)
	}
}

// R4: memory.

// roomy: a text with spare room behind it that isn't empty, and all of its memory.
func roomy(text string) (handedIn, memory []byte) {
	memory = []byte("<" + text + "1/spare?room#more")
	return memory[1 : 1+len(text)], memory
}

// spoil: overwrites all that a slice reaches.
func spoil(l ...[]byte) {
	for _, b := range l {
		b = b[:cap(b)]
		for i := range b {
			b[i] = '!'
		}
	}
}

func TestParseKeepsNothing(t *testing.T) {
	for _, text := range []string{"", "http://a", "HTTPS://A.org:443", "http://a:8", "http://a/", "closed:7", "closed:0", "closed:", "ftp://a", "http://" + longHost(api.MaxHost)} {
		in, memory := roomy(text)
		before := bytes.Clone(memory)
		want, errno := origin.Parse([]byte(text))
		o, e := origin.Parse(in)
		if !bytes.Equal(memory, before) {
			t.Errorf("Parse(%q) changes what is handed in: %q", text, memory)
		}
		spoil(memory)
		if o != want || e != errno {
			t.Errorf("Parse(%q) in a text with spare room that changed since: %+v, %d, not %+v, %d", text, o, int(e), want, int(errno))
		}
	}
}

func TestOfKeepsNothing(t *testing.T) {
	u := located(t, "https://a.org:8/x?y#z")
	var memory [][]byte
	for _, field := range []*[]byte{&u.Scheme, &u.Host, &u.Path, &u.Query, &u.Fragment} {
		in, all := roomy(string(*field))
		*field = in
		memory = append(memory, all)
	}
	o := origin.Of(u)
	if !sameURL(u, located(t, "https://a.org:8/x?y#z")) || !bytes.Equal(memory[0], []byte("<https1/spare?room#more")) {
		t.Errorf("Of changes what is handed in: %q", u.Text())
	}
	spoil(memory...)
	if o != server("https", "a.org", 8) {
		t.Errorf("Of a URL that changed since: %+v", o)
	}
}

func TestURLIsNewMemory(t *testing.T) {
	o := server("https", "a.org", 8)
	first, _ := o.URL()
	second, _ := o.URL()
	for _, b := range [][]byte{first.Scheme, first.Host, first.Path} {
		spoil(b)
		spoil(append(b, "more"...))
	}
	third, _ := o.URL()
	want := located(t, "https://a.org:8/")
	if !sameURL(second, want) || !sameURL(third, want) || o != server("https", "a.org", 8) {
		t.Errorf("URLs of one origin share memory: %q, %q", second.Text(), third.Text())
	}
	fields := [][]byte{second.Scheme, second.Host, second.Path}
	for i, b := range fields {
		spoil(b)
		for _, other := range fields[i+1:] {
			if bytes.Contains(other, []byte("!")) {
				t.Errorf("two fields of one URL share memory: %q", other)
			}
		}
	}
}
