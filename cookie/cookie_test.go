package cookie_test

import (
	"math"
	"strconv"
	"strings"
	"testing"

	"cordon/api"
	"cordon/cookie"
	"cordon/url"
)

// told: how the tests write a cookie, all of its fields.
func told(c cookie.Cookie) string {
	return strings.Join([]string{string(c.Name), string(c.Value), string(c.Path), c.Domain, strconv.Itoa(c.Age), strconv.FormatBool(c.Secure)}, "|")
}

// nothing is how the tests write the zero value.
const nothing = "||||0|false"

// parses: a line is parsed to a cookie that the tests write so.
func parses(t *testing.T, line, want string) {
	t.Helper()
	c, e := cookie.Parse([]byte(line))
	if e != api.OK || told(c) != want {
		t.Errorf("Parse(%.160q): %.160q, %d, not %.160q", line, told(c), int(e), want)
	}
	parsesBack(t, c)
}

// refuses: a line isn't parsed, with this error and the zero value beside it.
func refuses(t *testing.T, line string, want api.Errno) {
	t.Helper()
	c, e := cookie.Parse([]byte(line))
	if e != want || told(c) != nothing {
		t.Errorf("Parse(%.160q): %.160q, %d, not %d", line, told(c), int(e), int(want))
	}
}

// parsesBack: the text of a cookie that was parsed is parsed to the same one.
func parsesBack(t *testing.T, c cookie.Cookie) {
	t.Helper()
	again, e := cookie.Parse(c.Text())
	if e != api.OK || told(again) != told(c) || string(again.Text()) != string(c.Text()) {
		t.Errorf("%.160q, parsed: %.160q, %d, not %.160q", c.Text(), told(again), int(e), told(c))
	}
}

// parsed: the cookie of a line, that there is.
func parsed(t *testing.T, line string) cookie.Cookie {
	t.Helper()
	c, e := cookie.Parse([]byte(line))
	if e != api.OK {
		t.Fatalf("Parse(%.160q): %d", line, int(e))
	}
	return c
}

// place: the URL of a text, that there is; the zero value of "".
func place(t *testing.T, text string) url.URL {
	t.Helper()
	if text == "" {
		return url.URL{}
	}
	u, e := url.Parse([]byte(text))
	if e != api.OK {
		t.Fatalf("URL %.160q: %d", text, int(e))
	}
	return u
}

// filled: a text with as many of a letter behind it as make it so long.
func filled(text string, length int) string {
	return text + strings.Repeat("x", length-len(text))
}

// longHost: a host of so many bytes, more than 192.
func longHost(length int) string {
	return strings.Repeat(strings.Repeat("a", api.MaxPart)+".", 3) + strings.Repeat("b", length-3*(api.MaxPart+1))
}

// P13.1: names and values

func TestParseNamesAndValues(t *testing.T) {
	for line, want := range map[string]string{
		"a=1": "a|1", "A=b": "A|b", "a=": "a|", "a=b=c": "a|b=c", "a==": "a|=", "a==b": "a|=b", "Path=/x": "Path|/x", "secure=1": "secure|1", "Max-Age=x": "Max-Age|x", "Domain=-": "Domain|-",
		"0=0": "0|0", "!#$%&'*+-.^_`|~=x": "!#$%&'*+-.^_`|~|x", "a='b'": "a|'b'", "a=(b)<c>@[d]{e}:/?": "a|(b)<c>@[d]{e}:/?", "a=%20": "a|%20",

		// Blanks about them.
		" a=1": "a|1", "a =1": "a|1", "a= 1": "a|1", "a=1 ": "a|1", " \ta\t = \t1\t ": "a|1", "a= ": "a|", "a=\t \t": "a|", " a = ": "a|", "a= =": "a|=", "a=b =": "",
	} {
		if want == "" {
			refuses(t, line, api.ErrForm)
			continue
		}
		for _, behind := range []string{"", ";", " ; ", ";;", ";x", "; x=\" ,\\"} {
			parses(t, line+behind, want+"|||-1|false")
		}
		parses(t, line+";Path=/p; Domain=d;Max-Age=7;Secure", want+"|/p|d|7|true")
	}
}

func TestParseWithoutACookie(t *testing.T) {
	for _, line := range []string{
		"", " ", "\t", ";", ";;", "=", "==", " = ", "\t=", "=;", "=1", " =1", "=a=1",
		"a", "a ", "a;", "a;b=1", "a; Path=/x", ";a=1", " ;a=1", "Secure", "a;=", "a;=1",
		"a b=1", "a\tb=1", "a,b=1", "a/b=1", "a:b=1", "a(=1", "a@=1", "\"a\"=1", "a\\=1", "{a}=1", "[a]=1", "a\x00=1", "\x7f=1", "\xff=1", "\u00e9=1", "\na=1", "a\n=1", "\ra=1", "\va=1", "a\u00a0=1",
		"a=b c", "a=b\tc", "a=b \tc", "a=\"", "a=\"b\"", "a=,", "a=b,c", "a=\\", "a=b\\", "a=\x00", "a=b\x00", "a=\n", "a=b\r", "a=b\r\n", "a=\v", "a=\x1f", "a=\x7f", "a=\x80", "a=\xff", "a=\u00e9", "a=b\u00a0",
	} {
		refuses(t, line, api.ErrForm)
		refuses(t, line+";", api.ErrForm)
		refuses(t, line+"; Path=/; Domain=d; Max-Age=1; Secure; b=2", api.ErrForm)
	}
	if c, e := cookie.Parse(nil); e != api.ErrForm || told(c) != nothing {
		t.Errorf("Parse(nil): %q, %d", told(c), int(e))
	}
}

// Of each byte: may it stand in a name, in a value, and about them?
func TestBytesOfNamesAndValues(t *testing.T) {
	const marks = "!#$%&'*+-.^_`|~"
	for i := range 256 {
		b := string([]byte{byte(i)})
		blank := b == " " || b == "\t"
		letter := i < 128 && (strings.ToLower(b) != strings.ToUpper(b) || "0" <= b && b <= "9")
		named := letter || strings.Contains(marks, b)
		valued := 33 <= i && i <= 126 && !strings.Contains("\",;\\", b)
		for _, c := range []struct {
			line, want string
			good       bool
		}{
			{"n" + b + "m=v", "n" + b + "m|v", named},
			{b + "=v", b + "|v", named},
			{"n=v" + b + "w", "n|v" + b + "w", valued},
			{"n=" + b, "n|" + strings.Trim(b, " \t"), valued || blank},
			{"n=" + b + "v", "n|" + strings.Trim(b+"v", " \t"), valued || blank},
			{"n=v" + b, "n|" + strings.Trim("v"+b, " \t"), valued || blank},
		} {
			if b == ";" || b == "=" { // they part something: see above
				continue
			}
			if c.good {
				parses(t, c.line, c.want+"|||-1|false")
			} else {
				refuses(t, c.line, api.ErrForm)
			}
		}
	}
}

// P13.1: attributes

func TestParseAttributes(t *testing.T) {
	for behind, want := range map[string]string{
		"": "||-1|false", ";": "||-1|false", "; ": "||-1|false", ";;;": "||-1|false", ";=": "||-1|false", ";=/x": "||-1|false", ";=;= ;": "||-1|false",

		// Each alone, in small letters and great ones, with and without blanks.
		"; Path=/x": "/x||-1|false", ";path=/x": "/x||-1|false", ";PATH=/x": "/x||-1|false", ";pAtH=/X": "/X||-1|false", " ;\tPath\t=\t/x\t": "/x||-1|false", ";  Path = /x y \t;": "/x y||-1|false",
		"; Domain=a.org": "|a.org|-1|false", ";domain=a.org": "|a.org|-1|false", ";DOMAIN=A.ORG": "|a.org|-1|false", "; \tDomain \t= \tA-1.Org\t ;": "|a-1.org|-1|false",
		"; Max-Age=7": "||7|false", ";max-age=7": "||7|false", ";MAX-AGE=7": "||7|false", ";\tmAX-aGE =\t7 ": "||7|false",
		"; Secure": "||-1|true", ";secure": "||-1|true", ";SECURE": "||-1|true", ";\tsEcUrE ;": "||-1|true", ";Secure=": "||-1|true", "; Secure = ": "||-1|true", ";secure=1": "||-1|true", ";Secure=false": "||-1|true", ";Secure==": "||-1|true",

		// Unknown ones, and what isn't of the name.
		";x": "||-1|false", ";x=1": "||-1|false", "; HttpOnly; SameSite=Lax; Expires=Wed, 21 Oct 2015 07:28:00 GMT": "||-1|false", ";Pat=/x": "||-1|false", ";Paths=/x": "||-1|false", ";P ath=/x": "||-1|false", ";\"Path\"=/x": "||-1|false", ";=Path=/x": "||-1|false", ";x Path=/x": "||-1|false", ";Path:/x": "||-1|false", "; Path/x": "||-1|false",
		";Domains=-": "||-1|false", ";MaxAge=x": "||-1|false", ";Max Age=7": "||-1|false", ";Max_Age=7": "||-1|false", ";Max-Age7": "||-1|false", ";Max-Age\x00=7": "||-1|false", ";Secured": "||-1|false", ";Secur": "||-1|false", ";Secure;x": "||-1|true", ";Secure x": "||-1|false", ";x=Secure": "||-1|false", ";=Secure": "||-1|false", ";\nSecure": "||-1|false", ";\u017fecure": "||-1|false", ";\xff=\x00\"\\,": "||-1|false",

		// All of them, in any order.
		"; Path=/x; Domain=d; Max-Age=1; Secure": "/x|d|1|true", ";secure;max-age=1;domain=D;path=/x": "/x|d|1|true", ";;Max-Age=1;x;Path=/x;;y=z;Secure;Domain=d;": "/x|d|1|true",
	} {
		parses(t, "a=1"+behind, "a|1|"+want)
		parses(t, " a = 1 "+behind, "a|1|"+want)
	}
}

func TestParsePath(t *testing.T) {
	for text, want := range map[string]string{
		"=/": "/", "=//": "//", "=/x": "/x", "=/x/": "/x/", "=/x/y?z#w": "/x/y?z#w", "=/x=y": "/x=y", "=/=": "/=", "= \t/x\t ": "/x", "=/ x": "/ x", "=/\"\\,": "/\"\\,", "=/%7e/../.": "/%7e/../.", "=/\x00\x7f\xff\n\r": "/\x00\x7f\xff\n\r", "=/\u00e9": "/\u00e9", "=/A": "/A",

		// These count for nothing.
		"": "", "=": "", "= ": "", "=x": "", "=x/": "", "=./x": "", "=..": "", "=\"/x\"": "", "==/x": "", "= =/x": "", "=\\x": "", "=http://h/x": "", "=\n/x": "", "=?": "", "=\x00/": "", "=%2fx": "",
	} {
		parses(t, "a=1;Path"+text, "a|1|"+want+"||-1|false")
		parses(t, "a=1; PATH "+text+" ;x", "a|1|"+want+"||-1|false")
		parses(t, "a=1;Path=/ahead;path"+text, "a|1|"+want+"||-1|false") // the last one counts alone, and may count for nothing
		parses(t, "a=1;Path"+text+"; path = /behind", "a|1|/behind||-1|false")
		parses(t, "a=1;Path=x;Secure;Path"+text+";Max-Age=0", "a|1|"+want+"||0|true")
	}
	parses(t, "a=1;Path=/x;Path=y;Path=/z", "a|1|/z||-1|false")
	parses(t, "a=1;Path=/x;Path=/y;Path", "a|1|||-1|false")
}

func TestParseDomain(t *testing.T) {
	good := map[string]string{
		"a": "a", "a.org": "a.org", "A.Org": "a.org", "X-1.A.ORG": "x-1.a.org", " \ta\t ": "a", "1.2.3.4": "1.2.3.4", "0.0.0.0": "0.0.0.0", "255.255.255.255": "255.255.255.255", "1.a": "1.a", "1.2.3.4.a": "1.2.3.4.a", "xn--a": "xn--a", "localhost": "localhost",
		"a.b.c.d.e.f.g.h": "a.b.c.d.e.f.g.h", strings.Repeat("A", api.MaxPart): strings.Repeat("a", api.MaxPart), longHost(api.MaxHost): longHost(api.MaxHost),
	}
	wrong := []string{
		"", " ", ".", "-", "*", "a.", ".a", ".a.org", "a..b", "-a", "a-", "a b", "a\tb", "a_b", "a:80", "a/", "//a", "http://a", "*.a", "a,b", "a=b", "\"a\"", "=a", "a\n", "\ra", "a\x00", "\u00e9", "a\xff",
		"1.2.3", "1", "a.1", "1.2.3.256", "1.2.3.04", "1.2.3.4.5", "[::1]", "a.b.c.d.e.f.g.h.i", strings.Repeat("a", api.MaxPart+1), longHost(api.MaxHost + 1), strings.Repeat("a", 3000),
	}
	for text, want := range good {
		parses(t, "a=1; Domain="+text, "a|1||"+want+"|-1|false")
		parses(t, "a=1;domain="+text+";x", "a|1||"+want+"|-1|false")
		for ahead := range good { // the last one counts alone
			parses(t, "a=1;Domain="+ahead+";Secure; DOMAIN = "+text, "a|1||"+want+"|-1|true")
		}
		for _, other := range wrong { // but each must be valid
			refuses(t, "a=1;Domain="+other+";Domain="+text, api.ErrForm)
			refuses(t, "a=1;Domain="+text+";x;domain="+other, api.ErrForm)
		}
	}
	for _, other := range wrong {
		refuses(t, "a=1;Domain="+other, api.ErrForm)
		refuses(t, "a=1;Path=/x;Secure; DOMAIN = "+other+" ;Max-Age=1", api.ErrForm)
	}
	refuses(t, "a=1;Domain", api.ErrForm)
	refuses(t, "a=1; domain ;Domain=a", api.ErrForm)
	refuses(t, "a=1;Domain=a; DOMAIN", api.ErrForm)
}

func TestParseMaxAge(t *testing.T) {
	const most = "1073741824"
	good := map[string]string{"0": "0", "1": "1", "9": "9", "10": "10", "1073741823": "1073741823", most: most, " \t7\t ": "7"}
	wrong := []string{
		"", " ", "-1", "-0", "+1", "00", "01", "07", "0x7", "1.0", "1e3", "1_0", "7 7", "7\t7", "x", "7x", "x7", "\"7\"", "=7", "7=", "7,", "7\n", "\r7", "7\x00", "\u0667", "\uff17",
		"1073741825", "1073741834", "2147483648", "4294967296", "10737418240", "9223372036854775807", "9223372036854775808", "18446744073709551616", "18446744073709551617", strings.Repeat("9", 4000), strings.Repeat("0", 4000),
	}
	for text, want := range good {
		parses(t, "a=1; Max-Age="+text, "a|1|||"+want+"|false")
		parses(t, "a=1;max-age="+text+";x", "a|1|||"+want+"|false")
		for ahead := range good { // the last one counts alone
			parses(t, "a=1;Max-Age="+ahead+";Path=/; MAX-AGE = "+text, "a|1|/||"+want+"|false")
		}
		for _, other := range wrong { // but each must be valid
			refuses(t, "a=1;Max-Age="+other+";Max-Age="+text, api.ErrForm)
			refuses(t, "a=1;Max-Age="+text+";x;max-age="+other, api.ErrForm)
		}
	}
	for _, other := range wrong {
		refuses(t, "a=1;Max-Age="+other, api.ErrForm)
		refuses(t, "a=1;Secure;Domain=d; MAX-AGE = "+other+" ;Path=/", api.ErrForm)
	}
	refuses(t, "a=1;Max-Age", api.ErrForm)
	refuses(t, "a=1; max-age ;Max-Age=1", api.ErrForm)
	refuses(t, "a=1;Max-Age=1; MAX-AGE", api.ErrForm)
	if api.MaxAge != 1073741824 {
		t.Error("MaxAge")
	}
}

// P13.1: lengths

func TestLengths(t *testing.T) {
	for _, begin := range []string{"a=", "a=1; Path=/", "a=1; Path=/x; path=/", "a=1; x"} {
		parsed(t, filled(begin, api.MaxText))
		parsesBack(t, parsed(t, filled(begin, api.MaxText)))
		refuses(t, filled(begin, api.MaxText+1), api.ErrLong)
	}
	parses(t, filled("a=", api.MaxText), "a|"+strings.Repeat("x", api.MaxText-2)+"|||-1|false")
	parses(t, filled("", api.MaxText-1)+"=", filled("", api.MaxText-1)+"||||-1|false")
	for _, line := range []string{"a=1" + strings.Repeat(" ", api.MaxText-3), strings.Repeat(" ", api.MaxText-3) + "a=1", "a=1" + strings.Repeat(";", api.MaxText-3), "a=1;" + strings.Repeat("=", api.MaxText-4)} {
		parses(t, line, "a|1|||-1|false")
		refuses(t, line[:3]+" "+line[3:], api.ErrLong) // too long, though its text isn't
		refuses(t, line+";", api.ErrLong)
	}
	// That it is too long is told ahead of all else.
	for _, b := range []string{"x", "=", ";", " ", "\x00", "a=1;Max-Age=x;"} {
		refuses(t, strings.Repeat(b, api.MaxText+1), api.ErrLong)
		refuses(t, strings.Repeat(b, 1<<20), api.ErrLong)
	}
	refuses(t, filled("", api.MaxText), api.ErrForm)
	refuses(t, filled("a=1; Domain=", api.MaxText), api.ErrForm)
	refuses(t, filled("a=1; Max-Age=", api.MaxText), api.ErrForm)
}

// No line is parsed whose text would be too long to be parsed.
func TestLongTexts(t *testing.T) {
	for _, c := range []struct{ ahead, behind string }{{"a=1;Path=/", ""}, {"a=", ";Secure"}, {"a=", ";Max-Age=1"}, {"a=", ";Domain=d"}} {
		line := func(length int) string { return filled(c.ahead, length-len(c.behind)) + c.behind }
		parsesBack(t, parsed(t, line(api.MaxText-1)))
		if got := len(parsed(t, line(api.MaxText-1)).Text()); got != api.MaxText {
			t.Errorf("%q: a text of %d bytes", c, got)
		}
		refuses(t, line(api.MaxText), api.ErrLong)
		refuses(t, line(api.MaxText-len(";Domain"))+";Domain", api.ErrForm) // the form is told ahead of that
	}
	all := ";Domain=d;Max-Age=1;Secure;Path=/"
	parsesBack(t, parsed(t, filled("a=1"+all, api.MaxText-4)))
	for short := range 4 {
		refuses(t, filled("a=1"+all, api.MaxText-short), api.ErrLong)
	}
}

// P13.1: Text

func TestText(t *testing.T) {
	for in, want := range map[string]string{
		"a=1; Path=/x; secure": "a=1; Path=/x; Secure", "a=1": "a=1", " a = ": "a=", "a==": "a==",
		"a=1;path=/x": "a=1; Path=/x", "a=1;domain=D.ORG": "a=1; Domain=d.org", "a=1;max-age=0": "a=1; Max-Age=0", "a=1;Max-Age=1073741824": "a=1; Max-Age=1073741824", "a=1;SECURE=x": "a=1; Secure",
		"a=1;secure;max-age=7;domain=d;path=/x": "a=1; Path=/x; Domain=d; Max-Age=7; Secure", "a=1;Secure;Path=/ x": "a=1; Path=/ x; Secure", "a=1;Max-Age=7;Domain=d": "a=1; Domain=d; Max-Age=7", "a=1;Secure;Secure;x;Domain=d;Domain=e": "a=1; Domain=e; Secure", "a=1;Path=/x;Path=x": "a=1",
	} {
		if got := parsed(t, in).Text(); string(got) != want {
			t.Errorf("Text of %q: %q, not %q", in, got, want)
		}
	}
}

// Of cookies that somebody wrote.
func TestTextOfWritten(t *testing.T) {
	name, value := []byte("a"), []byte("1")
	for want, c := range map[string]cookie.Cookie{
		"=; Max-Age=0":           {},
		"=":                      {Age: -1},
		"a=; Max-Age=0":          {Name: name},
		"a=1":                    {Name: name, Value: value, Path: []byte{}, Age: -1},
		"a=1; Path=/x":           {Name: name, Value: value, Path: []byte("/x"), Age: -1},
		"a=1; Domain=d":          {Name: name, Value: value, Domain: "d", Age: -1},
		"a=1; Max-Age=7":         {Name: name, Value: value, Age: 7},
		"a=1; Secure":            {Name: name, Value: value, Age: -1, Secure: true},
		"a=1; Path=/; Domain=d":  {Name: name, Value: value, Path: []byte("/"), Domain: "d", Age: -1},
		"=1; Max-Age=5; Secure":  {Value: value, Age: 5, Secure: true},
		"=; Domain=x; Max-Age=0": {Domain: "x"},
		"=; Path=/; Max-Age=" + strconv.Itoa(math.MaxInt): {Path: []byte("/"), Age: math.MaxInt},
	} {
		if got := c.Text(); string(got) != want {
			t.Errorf("Text of %q: %q, not %q", told(c), got, want)
		}
	}
	if got := (cookie.Cookie{Name: name, Age: math.MinInt}).Text(); string(got) != "a=" {
		t.Errorf("Text of an Age below nothing: %q", got)
	}
}

// P13.2: May

// may: what a cookie answers at a URL, OK or ErrPolicy.
func may(t *testing.T, line, at string, want bool) {
	t.Helper()
	e := parsed(t, line).May(place(t, at))
	if e == api.OK != want || e != api.OK && e != api.ErrPolicy {
		t.Errorf("%q, set at %q: %d, not %t", line, at, int(e), want)
	}
}

func TestMay(t *testing.T) {
	for _, c := range []struct {
		line, at string
		want     bool
	}{
		{"a=1", "http://h", true}, {"a=1", "https://h", true}, {"a=1", "http://1.2.3.4:80/x?y#z", true}, {"a=1;Max-Age=0", "http://h", true},
		{"a=1;Path=/x", "http://h/y", true}, // no Path forbids

		{"a=1;Domain=h", "http://h", true}, {"a=1;Domain=H", "https://h:8", true}, {"a=1;Domain=h", "HTTP://H", true}, {"a=1;Domain=h", "http://i", false},
		{"a=1;Domain=a.org", "http://a.org", true}, {"a=1;Domain=a.org", "http://x.a.org", true}, {"a=1;Domain=a.org", "http://y.x.a.org", true}, {"a=1;Domain=org", "http://y.x.a.org", true},
		{"a=1;Domain=a.org", "http://ba.org", false}, {"a=1;Domain=a.org", "http://x-a.org", false}, {"a=1;Domain=a.org", "http://org", false}, {"a=1;Domain=a.org", "http://a.org.b", false}, {"a=1;Domain=a.org", "http://a", false}, {"a=1;Domain=x.a.org", "http://a.org", false}, {"a=1;Domain=x.a.org", "http://y.a.org", false},
		{"a=1;Domain=1.2.3.4", "http://1.2.3.4", true}, {"a=1;Domain=1.2.3.4", "http://1.2.3.5", false}, {"a=1;Domain=1.2.3.4", "http://0.1.2.3.4.a", false}, {"a=1;Domain=a", "http://1.2.3.4", false},

		{"a=1;Secure", "https://h", true}, {"a=1;Secure", "https://h:80", true}, {"a=1;Secure", "HTTPS://h", true}, {"a=1;Secure", "http://h", false}, {"a=1;Secure", "http://h:443", false},
		{"a=1;Secure;Domain=h", "https://x.h", true}, {"a=1;Secure;Domain=h", "http://x.h", false}, {"a=1;Secure;Domain=i", "https://x.h", false}, {"a=1;Secure;Domain=i", "http://x.h", false},
	} {
		may(t, c.line, c.at, c.want)
		may(t, c.line+";Path=/p/q;Max-Age=7", c.at, c.want)
	}
}

// P13.2: Home

func TestHome(t *testing.T) {
	for _, c := range []struct{ line, at, want string }{
		{"a=1", "http://h", "/"}, {"a=1", "http://h/", "/"}, {"a=1", "http://h/x", "/"}, {"a=1", "http://h/x/", "/x"}, {"a=1", "http://h/x/y", "/x"}, {"a=1", "http://h/x/y/", "/x/y"}, {"a=1", "http://h/x/y/z.html", "/x/y"},
		{"a=1", "http://h//", "/"}, {"a=1", "http://h//x", "/"}, {"a=1", "http://h///", "//"}, {"a=1", "http://h/x//", "/x/"}, {"a=1", "http://h/x//y", "/x/"}, {"a=1", "http://h/a%2Fb/c", "/a%2Fb"}, {"a=1", "http://h/a%2Fb", "/"}, {"a=1", "http://h/x/..", "/"}, {"a=1", "http://h/x/.", "/x"},
		{"a=1", "http://h/x/y?/z/w", "/x"}, {"a=1", "http://h/x/y#/z/w", "/x"}, {"a=1", "http://h?/z", "/"}, {"a=1", "https://h:8/x/y", "/x"},
		{"a=1;Path=/", "http://h/x/y", "/"}, {"a=1;Path=/p", "http://h/x/y", "/p"}, {"a=1;Path=/p/", "http://h/x/y", "/p/"}, {"a=1;Path=/x/y/z", "http://h/x/y", "/x/y/z"}, {"a=1;Path=/p q/..//", "http://h", "/p q/..//"}, {"a=1;Path=//", "http://h", "//"},
		{"a=1;Path=p", "http://h/x/y", "/x"}, {"a=1;Path", "http://h/x/y", "/x"}, {"a=1;Path=/p;Path=q", "http://h/x/y", "/x"},
		{"a=1;Domain=i;Secure;Max-Age=0", "http://h/x/y", "/x"}, // whether it may be set there or not
		{"a=1;Path=/p", "", "/p"},
	} {
		if got := parsed(t, c.line).Home(place(t, c.at)); string(got) != c.want {
			t.Errorf("Home of %q, set at %q: %q, not %q", c.line, c.at, got, c.want)
		}
	}
}

// P13.2: Meant

// meant: is the cookie of a line, set at a URL, meant for another one?
func meant(t *testing.T, line, at, u string, want bool) {
	t.Helper()
	if parsed(t, line).Meant(place(t, at), place(t, u)) != want {
		t.Errorf("%q, set at %q, meant for %q: %t", line, at, u, !want)
	}
}

func TestExample(t *testing.T) {
	const line = "a=1; Path=/x; secure"
	parses(t, line, "a|1|/x||-1|true")
	meant(t, line, "https://h/", "https://h/x/y", true)
	meant(t, line, "https://h/", "https://h/xy", false)
}

func TestMeantForHosts(t *testing.T) {
	for _, c := range []struct {
		line, at, u string
		want        bool
	}{
		{"a=1", "http://h", "http://h", true}, {"a=1", "http://h", "http://i", false}, {"a=1", "http://h", "http://H/x?y#z", true}, {"a=1", "http://h:8", "http://h:9", true}, {"a=1", "http://h", "https://h", true}, {"a=1", "https://h", "http://h", true},
		{"a=1", "http://h", "http://x.h", false}, {"a=1", "http://x.h", "http://h", false}, {"a=1", "http://1.2.3.4", "http://1.2.3.4", true}, {"a=1", "http://1.2.3.4", "http://1.2.3.5", false},
		{"a=1;Domain=a.org", "http://a.org", "http://a.org", true}, {"a=1;Domain=a.org", "http://a.org", "http://x.a.org", true}, {"a=1;Domain=a.org", "http://a.org", "http://y.x.a.org", true}, {"a=1;Domain=a.org", "http://x.a.org", "http://a.org", true}, {"a=1;Domain=A.ORG", "http://x.a.org", "http://y.a.org", true},
		{"a=1;Domain=a.org", "http://a.org", "http://org", false}, {"a=1;Domain=a.org", "http://a.org", "http://ba.org", false}, {"a=1;Domain=a.org", "http://a.org", "http://x-a.org", false}, {"a=1;Domain=a.org", "http://a.org", "http://a.org.b", false}, {"a=1;Domain=a.org", "http://x.a.org", "http://b.org", false}, {"a=1;Domain=x.a.org", "http://x.a.org", "http://y.a.org", false},
		{"a=1;Domain=1.2.3.4", "http://1.2.3.4", "http://1.2.3.4", true}, {"a=1;Domain=1.2.3.4", "http://1.2.3.4", "http://3.4.a", false},

		// Set where it may not be: the setting URL's host is one, that within the Domain another one.
		{"a=1;Domain=b.org", "http://a.org", "http://x.b.org", true}, {"a=1;Domain=b.org", "http://a.org", "http://a.org", true}, {"a=1;Domain=b.org", "http://a.org", "http://x.a.org", false},
	} {
		meant(t, c.line, c.at, c.u, c.want)
		meant(t, c.line+";Path=/", c.at+"/p/q", c.u, c.want)
	}
}

func TestMeantForPaths(t *testing.T) {
	for _, c := range []struct {
		line, at, u string
		want        bool
	}{
		// Path tells.
		{"a=1;Path=/x", "/", "/x", true}, {"a=1;Path=/x", "/", "/x/", true}, {"a=1;Path=/x", "/", "/x/y", true}, {"a=1;Path=/x", "/", "/x//", true}, {"a=1;Path=/x", "/", "/x?y", true}, {"a=1;Path=/x", "/", "/x#y", true}, {"a=1;Path=/x", "/y/z", "/x/y/z", true},
		{"a=1;Path=/x", "/", "/xy", false}, {"a=1;Path=/x", "/", "/x.", false}, {"a=1;Path=/x", "/", "/x-/", false}, {"a=1;Path=/x", "/", "/x%2Fy", false}, {"a=1;Path=/x", "/", "/", false}, {"a=1;Path=/x", "/", "/X", false}, {"a=1;Path=/x", "/", "/y/x", false}, {"a=1;Path=/x", "/", "//x", false}, {"a=1;Path=/x", "/x/y", "/y", false}, {"a=1;Path=/x", "/x", "/?/x", false},
		{"a=1;Path=/x/", "/", "/x/", true}, {"a=1;Path=/x/", "/", "/x/y", true}, {"a=1;Path=/x/", "/", "/x//", true}, {"a=1;Path=/x/", "/", "/x", false}, {"a=1;Path=/x/", "/", "/xy", false}, {"a=1;Path=/x/", "/", "/xy/", false},
		{"a=1;Path=/", "/x/y", "/", true}, {"a=1;Path=/", "/x/y", "/z", true}, {"a=1;Path=/", "/", "//", true}, {"a=1;Path=//", "/", "/", false}, {"a=1;Path=//", "/", "//", true}, {"a=1;Path=//", "/", "//x", true},
		{"a=1;Path=/x y", "/", "/x%20y", false}, {"a=1;Path=/x%20y", "/", "/x y", true}, // a path is the text that it is, a URL's in canon

		// The setting URL tells.
		{"a=1", "/", "/", true}, {"a=1", "/", "/x", true}, {"a=1", "/x", "/", true}, {"a=1", "/x", "/y/z", true}, {"a=1", "/x", "/x", true},
		{"a=1", "/x/", "/x", true}, {"a=1", "/x/", "/x/", true}, {"a=1", "/x/y", "/x", true}, {"a=1", "/x/y", "/x/z/w", true}, {"a=1", "/x/y", "/x/y", true}, {"a=1", "/x/y", "/", false}, {"a=1", "/x/y", "/xz", false}, {"a=1", "/x/y", "/y", false}, {"a=1", "/x/y/z", "/x/y", true}, {"a=1", "/x/y/z", "/x", false}, {"a=1", "/x/y/z", "/x/yz", false},
		{"a=1", "/x//y", "/x/", true}, {"a=1", "/x//y", "/x/z", true}, {"a=1", "/x//y", "/x", false}, {"a=1", "//x", "/y", true}, {"a=1;Path=q", "/x/y", "/x/z", true}, {"a=1;Path=q", "/x/y", "/q", false},
	} {
		meant(t, c.line, "http://h"+c.at, "http://h"+c.u, c.want)
		meant(t, c.line+"; Secure; Domain=h; Max-Age=0", "https://h:81"+c.at, "https://x.h"+c.u, c.want)
		meant(t, c.line, "http://h"+c.at, "http://i"+c.u, false)
	}
}

func TestMeantForSchemes(t *testing.T) {
	for _, line := range []string{"a=1;Secure", "a=1;Secure;Path=/", "a=1;Secure=no;Domain=h"} {
		for _, at := range []string{"https://h/x", "http://h"} { // the scheme of the URL that it is asked for counts
			meant(t, line, at, "https://h", true)
			meant(t, line, at, "HTTPS://H:80/x", true)
			meant(t, line, at, "http://h", false)
			meant(t, line, at, "http://h:443/x", false)
		}
	}
}

// R1: zero values, and what nobody parsed.
func TestWhatNobodyParsed(t *testing.T) {
	for _, c := range []cookie.Cookie{{}, {Age: math.MinInt}, {Path: []byte("x")}, {Path: []byte("/")}, {Domain: "."}, {Domain: "A.org"}, {Domain: strings.Repeat("a.", 1000)}, {Secure: true}, {Name: []byte(";="), Value: []byte("\x00")}} {
		for _, at := range []url.URL{{}, {Path: []byte("x")}, {Path: []byte("x/y")}, {Host: []byte("a.org")}, {Host: []byte("..")}, {Scheme: []byte("https"), Port: -1}, place(t, "https://a.org/x/y")} {
			c.Text()
			c.May(at)
			c.Home(at)
			c.Meant(at, url.URL{})
			c.Meant(url.URL{}, at)
		}
	}
	var zero cookie.Cookie
	if zero.May(place(t, "http://h")) != api.OK || string(zero.Home(place(t, "http://h/x/y"))) != "/x" || !zero.Meant(place(t, "http://h/x/y"), place(t, "http://h/x")) {
		t.Error("the zero value, at URLs that are there")
	}
	parsedOne := parsed(t, "a=1;Domain=h;Secure")
	if parsedOne.May(url.URL{}) != api.ErrPolicy || parsedOne.Meant(place(t, "https://h"), url.URL{}) {
		t.Error("a cookie, at no URL")
	}
	if (cookie.Cookie{Domain: "A.org"}).May(place(t, "http://a.org")) != api.ErrPolicy {
		t.Error("nothing is within a Domain that is no canon")
	}
}
