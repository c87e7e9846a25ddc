package cookie_test

import (
	"bytes"
	"regexp"
	"slices"
	"strconv"
	"strings"
	"testing"

	"cordon/api"
	"cordon/cookie"
	"cordon/host"
	"cordon/url"
)

// shortTexts: all texts of up to most bytes of these.
func shortTexts(of string, most int) []string {
	l := []string{""}
	for from := 0; most > 0; most-- {
		to := len(l)
		for _, t := range l[from:to] {
			for i := range len(of) {
				l = append(l, t+of[i:i+1])
			}
		}
		from = to
	}
	return l
}

// The chapter's words, as the library's patterns.
var (
	first     = regexp.MustCompile("\\A[ \t]*([!#$%&'*+.^_`|~0-9A-Za-z-]+)[ \t]*=[ \t]*([!#-+.-:<-\\[\\]-~-]*)[ \t]*\\z")
	attribute = regexp.MustCompile("(?is)\\A[ \t]*(path|domain|max-age|secure)[ \t]*(?:=[ \t]*(.*?)[ \t]*)?\\z")
	age       = regexp.MustCompile("\\A(0|[1-9][0-9]{0,9})\\z")
)

// wanted: the cookie of a line, as the tests write it, by the patterns; false: there is none.
func wanted(line string) (string, bool) {
	pieces := strings.Split(line, ";")
	m := first.FindStringSubmatch(pieces[0])
	if m == nil {
		return "", false
	}
	path, domain, most, secure := "", "", -1, false
	for _, piece := range pieces[1:] {
		a := attribute.FindStringSubmatch(piece)
		if a == nil {
			continue
		}
		switch strings.ToLower(a[1]) {
		case "path":
			path = a[2]
			if !strings.HasPrefix(path, "/") {
				path = ""
			}
		case "domain":
			canon, e := host.Parse([]byte(a[2]))
			if e != api.OK {
				return "", false
			}
			domain = string(canon)
		case "max-age":
			n, e := strconv.Atoi(a[2])
			if e != nil || !age.MatchString(a[2]) || n > api.MaxAge {
				return "", false
			}
			most = n
		case "secure":
			secure = true
		}
	}
	return strings.Join([]string{m[1], m[2], path, domain, strconv.Itoa(most), strconv.FormatBool(secure)}, "|"), true
}

// asWanted: a line is parsed as the patterns tell.
func asWanted(t *testing.T, line string) {
	t.Helper()
	if want, found := wanted(line); found {
		parses(t, line, want)
	} else {
		refuses(t, line, api.ErrForm)
	}
}

// P13.1 and P13.3 once more, of all short lines, and of all short attributes.
func TestShortLines(t *testing.T) {
	for _, line := range slices.Concat(shortTexts("aZ=; \t", 6), shortTexts("a=;,\"\\ ", 5), shortTexts("a= \n\x7f\xff", 5)) {
		asWanted(t, line)
	}
	for _, text := range shortTexts("/p.= ;", 5) {
		asWanted(t, "a=1;Path"+text)
		asWanted(t, "a=1; Path=/x; path ="+text)
	}
	for _, text := range shortTexts("D1.-; ", 5) {
		asWanted(t, "a=1;Domain="+text)
	}
	for _, text := range shortTexts("0179;- ", 4) {
		asWanted(t, "a=1;Max-Age="+text)
		asWanted(t, "a=1;Max-Age=107374182"+text)
		asWanted(t, "a=1;Domain=1.2.3."+text)
	}
	for _, text := range shortTexts("Ss=; x", 4) {
		asWanted(t, "a=1;"+text+"ecure"+text)
	}
}

// attributes are pieces that stand behind a ";".
func attributes() []string {
	return []string{
		"", " ", "x", "Path", "path=", " Path = /x/y ", "PATH=z", "Path=/", "Domain=A.org", " domain = b ", "Domain=", "domain", "DOMAIN=1.2.3", "Domain=1.2.3.4",
		"Max-Age=0", " max-age = 1073741824 ", "MAX-AGE=1073741825", "Max-Age=-1", "max-age", "Secure", " SECURE = x ", "Secured", "x=Secure",
	}
}

// And of all lines of up to three attributes.
func TestLinesOfAttributes(t *testing.T) {
	l := []string{"a=1"}
	for from := range 3 {
		for _, line := range l {
			if strings.Count(line, ";") < from {
				continue
			}
			for _, piece := range attributes() {
				l = append(l, line+";"+piece)
			}
		}
	}
	for _, line := range l {
		asWanted(t, line)
		asWanted(t, " "+line+" ; x")
	}
	for _, piece := range attributes() {
		asWanted(t, piece) // where the name and the value stand
	}
}

// And of lines with each byte left out, made another one, or with another one ahead of it.
func TestBentLines(t *testing.T) {
	const line = "a=1; Path=/x; Domain=d.e; Max-Age=70; Secure"
	for i := range line {
		asWanted(t, line[:i]+line[i+1:])
		for b := range 256 {
			other := string([]byte{byte(b)})
			asWanted(t, line[:i]+other+line[i:])
			asWanted(t, line[:i]+other+line[i+1:])
		}
	}
}

// cookies are of all kinds that count for a URL.
func cookies(t *testing.T) []cookie.Cookie {
	t.Helper()
	var l []cookie.Cookie
	for _, path := range []string{"", ";Path=/", ";Path=/x", ";Path=/x/", ";Path=/x/y", ";Path=//", ";Path=x"} {
		for _, domain := range []string{"", ";Domain=a.org", ";Domain=x.A.org", ";Domain=org", ";Domain=b", ";Domain=1.2.3.4"} {
			for _, rest := range []string{"", ";Secure", ";Max-Age=0", ";Max-Age=7;Secure=x"} {
				l = append(l, parsed(t, "a=1"+path+domain+rest))
			}
		}
	}
	return l
}

// places are URLs of all kinds that count for a cookie.
func places(t *testing.T) []url.URL {
	t.Helper()
	var l []url.URL
	for _, server := range []string{"http://a.org", "https://a.org", "https://a.org:81", "https://x.a.org", "http://x.a.org", "https://b", "https://1.2.3.4"} {
		for _, path := range []string{"", "/x", "/x/", "/x/y", "/xy", "/x/y/z", "//", "//x", "/x//y?/z#/w"} {
			l = append(l, place(t, server+path))
		}
	}
	return l
}

// up: a host and all that it is within.
func up(name []byte) []string {
	var l []string
	for above := range host.Up(name) {
		l = append(l, string(above))
	}
	return l
}

// homeWanted: the path of a cookie set at a URL, by the library's ways.
func homeWanted(c cookie.Cookie, at url.URL) string {
	if len(c.Path) > 0 {
		return string(c.Path)
	}
	path := string(at.Path)
	if dir := path[:strings.LastIndex(path, "/")]; dir != "" {
		return dir
	}
	return "/"
}

// P13.2 and P13.3, of all cookies and pairs of URLs of these kinds, held against the chapter's words.
func TestAllPairsOfURLs(t *testing.T) {
	all := places(t)
	for _, c := range cookies(t) {
		for _, at := range all {
			forbidden := c.Domain != "" && !slices.Contains(up(at.Host), c.Domain) || c.Secure && string(at.Scheme) != "https"
			if e := c.May(at); e == api.ErrPolicy != forbidden || !forbidden && e != api.OK {
				t.Errorf("%q, set at %q: %d", c.Text(), at.Text(), int(e))
			}
			home := homeWanted(c, at)
			if got := c.Home(at); string(got) != home {
				t.Errorf("Home of %q, set at %q: %q, not %q", c.Text(), at.Text(), got, home)
			}
			for _, u := range all {
				near := bytes.Equal(u.Host, at.Host) || c.Domain != "" && slices.Contains(up(u.Host), c.Domain)
				under := string(u.Path) == home || strings.HasPrefix(string(u.Path), strings.TrimSuffix(home, "/")+"/")
				safe := !c.Secure || string(u.Scheme) == "https"
				if got := c.Meant(at, u); got != (near && under && safe) {
					t.Errorf("%q, set at %q, meant for %q: %t", c.Text(), at.Text(), u.Text(), got)
				}
			}
			if c.May(at) == api.OK && len(c.Path) == 0 && !c.Meant(at, at) {
				t.Errorf("%q may be set at %q, and isn't meant for it", c.Text(), at.Text())
			}
		}
	}
}

// spoil: overwrites all that slices reach.
func spoil(l ...[]byte) {
	for _, b := range l {
		b = b[:cap(b)]
		for i := range b {
			b[i] = '?'
		}
	}
}

// roomy: a text with spare room behind it that isn't empty, and all of its memory.
func roomy(text string) (handedIn, memory []byte) {
	memory = []byte("b=" + text + "; Secure; x")
	return memory[2 : 2+len(text)], memory
}

// parts: all byte slices of a cookie, and those that its calls answer.
func parts(c cookie.Cookie, at url.URL) [][]byte {
	return [][]byte{c.Text(), c.Text(), c.Home(at), c.Home(at), c.Name, c.Value, c.Path}
}

// R4: what is handed in to Parse isn't changed or kept, and no answer shares memory with it or with another one.
func TestMemoryOfParse(t *testing.T) {
	at := place(t, "https://a.org/x/y")
	for _, line := range []string{"a=1", " a = 1 ", "a=", "abc=def;Path=/x/y;Domain=a.org;Max-Age=7;Secure", "abc=def;path=/x;path=/y", "a=1;Path=x", "", "a", "a=b c", "a=1;Domain=", filled("a=1; Path=/", api.MaxText), filled("a=", api.MaxText+1)} {
		in, memory := roomy(line)
		before := bytes.Clone(memory)
		c, _ := cookie.Parse(in)
		answers := parts(c, at)
		want := make([]string, len(answers))
		for i, a := range answers {
			want[i] = string(a)
		}
		if !bytes.Equal(memory, before) {
			t.Errorf("Parse(%.80q): what is handed in has changed: %.80q", line, memory)
		}
		spoil(memory)
		for i := range answers {
			if string(answers[i]) != want[i] {
				t.Errorf("Parse(%.80q): answer %d is %.80q, not %.80q", line, i, answers[i], want[i])
			}
			spoil(answers[i])
			for j := i + 1; j < len(answers); j++ {
				if string(answers[j]) != want[j] {
					t.Errorf("Parse(%.80q): answers %d and %d share memory", line, i, j)
				}
			}
		}
		if !bytes.Equal(at.Path, []byte("/x/y")) {
			t.Fatalf("Parse(%.80q): the URL's path is %q", line, at.Path)
		}
	}
}

// inOne: a URL and a cookie whose texts share one memory with something between them.
func inOne() (at url.URL, c cookie.Cookie, memory []byte) {
	memory = []byte("https|x.a.org|/x/y|q|f|abc|def|/x|spare")
	at = url.URL{Scheme: memory[0:5], Host: memory[6:13], Port: 443, Path: memory[14:18], Query: memory[19:20], Fragment: memory[21:22], HasQuery: true, HasFragment: true}
	return at, cookie.Cookie{Name: memory[23:26], Value: memory[27:30], Path: memory[31:33], Domain: "a.org", Age: 7, Secure: true}, memory
}

// R4: neither a cookie nor a URL is changed or kept, its spare room neither.
func TestMemoryOfCalls(t *testing.T) {
	for _, path := range []bool{true, false} {
		at, c, memory := inOne()
		want, home := "abc=def; Path=/x; Domain=a.org; Max-Age=7; Secure", "/x"
		if !path {
			c.Path = nil
			want = strings.Replace(want, "; Path=/x", "", 1)
		}
		before := bytes.Clone(memory)
		text, place := c.Text(), c.Home(at)
		if string(text) != want || string(place) != home || c.May(at) != api.OK || !c.Meant(at, at) {
			t.Errorf("%q, %q, %d, %t", text, place, int(c.May(at)), c.Meant(at, at))
		}
		if !bytes.Equal(memory, before) {
			t.Errorf("what is handed in has changed: %q", memory)
		}
		spoil(memory)
		if string(text) != want || string(place) != home {
			t.Errorf("what is handed in is kept: %q, %q", text, place)
		}
		at, c, memory = inOne()
		spoil(append(c.Text(), "more"...), append(c.Home(at), "more"...), c.Text(), c.Home(at))
		if !bytes.Equal(memory, before) {
			t.Errorf("an answer shares memory with what is handed in: %q", memory)
		}
	}
}
