package host_test

import (
	"iter"
	"slices"
	"strings"
	"testing"

	"cordon/api"
	"cordon/host"
)

const (
	greatLetters = "ABCDEFGHIJKLMNOPQRSTUVWXYZ"
	smallLetters = "abcdefghijklmnopqrstuvwxyz"
	decimals     = "0123456789"
)

// texts: what an iterator of pieces tells, as strings.
func texts(pieces iter.Seq[[]byte]) []string {
	var l []string
	for p := range pieces {
		l = append(l, string(p))
	}
	return l
}

func parses(t *testing.T, in, want string) {
	t.Helper()
	if got, e := host.Parse([]byte(in)); string(got) != want || e != api.OK {
		t.Errorf("Parse(%q): %q, %d, not %q", in, got, int(e), want)
	}
}

// refused: Parse answers an error, and nothing beside it; the text is no address, and nothing is above it.
func refused(t *testing.T, in string, want api.Errno) {
	t.Helper()
	if got, e := host.Parse([]byte(in)); got != nil || e != want {
		t.Errorf("Parse(%q): %q, %d, not %d", in, got, int(e), int(want))
	}
	if host.Address([]byte(in)) {
		t.Errorf("Address(%q)", in)
	}
	up(t, in)
	if host.Within([]byte(in), []byte(in)) {
		t.Errorf("Within(%q) itself", in)
	}
}

func up(t *testing.T, in string, want ...string) {
	t.Helper()
	if got := texts(host.Up([]byte(in))); !slices.Equal(got, want) {
		t.Errorf("Up(%q): %q, not %q", in, got, want)
	}
}

func within(t *testing.T, h, domain string, want bool) {
	t.Helper()
	if got := host.Within([]byte(h), []byte(domain)); got != want {
		t.Errorf("Within(%q, %q): %t", h, domain, got)
	}
}

// parts: so many parts, each as long as told, of one letter each.
func parts(lengths ...int) string {
	var l []string
	for i, n := range lengths {
		l = append(l, strings.Repeat(smallLetters[i:i+1], n))
	}
	return strings.Join(l, ".")
}

// P4.1

func TestParse(t *testing.T) {
	parses(t, "A.b-c.Org", "a.b-c.org")
	parses(t, "a", "a")
	parses(t, "Z", "z")
	parses(t, "a.org", "a.org")
	parses(t, "localhost", "localhost")
	parses(t, "WWW.EXAMPLE.COM", "www.example.com")
	parses(t, greatLetters+"."+smallLetters, smallLetters+"."+smallLetters)
	parses(t, decimals+".a"+decimals, decimals+".a"+decimals)
	parses(t, "xn--a-0.XN--P1AI", "xn--a-0.xn--p1ai")
}

func TestEmptyParts(t *testing.T) {
	for _, in := range []string{"", ".", "..", "a.", ".a", "a..b", "a.b.", ".a.b", "a.b..", ".1.2.3.4", "1.2.3.4.", "1..3.4", "1.2..4", "1.2.3."} {
		refused(t, in, api.ErrForm)
	}
	if got, e := host.Parse(nil); got != nil || e != api.ErrForm {
		t.Errorf("Parse(nil): %q, %d", got, int(e))
	}
}

// Each byte in a part of its own, at both ends of one and within one, in the last part and ahead of it.
func TestEachByte(t *testing.T) {
	for i := range 256 {
		if i == '.' {
			continue
		}
		b := string([]byte{byte(i)})
		letter := strings.Contains(greatLetters+smallLetters, b)
		digit := strings.Contains(decimals, b)
		for _, c := range []struct {
			in string
			is bool
		}{
			{b, letter},
			{b + "x", letter},
			{"x" + b, letter || digit},
			{"x" + b + "x", letter || digit || b == "-"},
			{"x" + b + b + "x", letter || digit || b == "-"},
			{b + ".x", letter || digit},
			{b + "x.x", letter || digit},
			{"x" + b + ".x", letter || digit},
			{"x" + b + "x.x", letter || digit || b == "-"},
			{"x." + b, letter},
			{"x." + b + "x", letter},
			{"x.x" + b, letter || digit},
			{"x.x" + b + "x", letter || digit || b == "-"},
			{"x." + b + ".x", letter || digit},
			{"1.2.3.4" + b, digit},
			{b + ".2.3.4", digit},
		} {
			if c.is {
				parses(t, c.in, strings.ToLower(c.in))
			} else {
				refused(t, c.in, api.ErrForm)
			}
		}
	}
}

func TestWrongTexts(t *testing.T) {
	for _, in := range []string{
		"a b", " a", "a ", "\ta", "a\n", "a\r\n", "a,b", "a_b", "_a.b", "a*b", "*.a.org", "a/b", "a.org/", "a:80", "http://a.org", "a@b", "a%41", "[::1]", "::1",
		"\u00e9.org", "a\u00e9", "\u212a", "a.\u212a", "\uff41", "a\u3002b", "a\xffb", "a\x00b", "\x00", "\xc1", "\xe1", "\xadx", "a\xadb",
	} {
		refused(t, in, api.ErrForm)
	}
}

func TestHyphens(t *testing.T) {
	for _, in := range []string{"a-b", "a--b", "a-b-c", "a-1", "1-a.b", "1-2.b", "a-b.c-d.e-f"} {
		parses(t, in, in)
	}
	for _, in := range []string{"-", "--", "-a", "a-", "-a-", "a.-", "-.a", "a.-b", "a.b-", "-a.b", "a-.b", "a.-b.c", "a.b-.c", "a.-.b", "-1.a", "1-.a", "1.2.3.-4", "-1.2.3.4", "1.2.3.4-"} {
		refused(t, in, api.ErrForm)
	}
}

func TestHowManyParts(t *testing.T) {
	for n := 1; n <= api.MaxLabels; n++ {
		in := strings.Repeat("a.", n-1) + "b"
		parses(t, in, in)
		in = strings.Repeat("1.", n-1) + "b"
		parses(t, in, in)
	}
	for _, n := range []int{api.MaxLabels + 1, api.MaxLabels + 2, 20, 100} {
		refused(t, strings.Repeat("a.", n-1)+"b", api.ErrForm)
		refused(t, strings.Repeat("1.", n-1)+"b", api.ErrForm)
	}
	refused(t, strings.Repeat("1.", api.MaxLabels-1)+"2", api.ErrForm)
	refused(t, strings.Repeat("a.", api.MaxLabels), api.ErrForm)
}

func TestHowLongAPart(t *testing.T) {
	most := strings.Repeat("m", api.MaxPart)
	for _, l := range [][2]string{{"", ""}, {"", ".a"}, {"a.", ""}, {"a.", ".b"}} {
		parses(t, l[0]+most+l[1], l[0]+most+l[1])
		parses(t, l[0]+strings.ToUpper(most)+l[1], l[0]+most+l[1])
		parses(t, l[0]+"m"+strings.Repeat("-", api.MaxPart-2)+"m"+l[1], l[0]+"m"+strings.Repeat("-", api.MaxPart-2)+"m"+l[1])
		refused(t, l[0]+most+"m"+l[1], api.ErrForm)
		refused(t, l[0]+most+most+l[1], api.ErrForm)
		refused(t, l[0]+"m"+strings.Repeat("-", api.MaxPart-1)+"m"+l[1], api.ErrForm)
	}
	parses(t, strings.Repeat("9", api.MaxPart)+".a", strings.Repeat("9", api.MaxPart)+".a")
	refused(t, strings.Repeat("9", api.MaxPart+1)+".a", api.ErrForm)
}

func TestHowLongAHost(t *testing.T) {
	for _, lengths := range [][]int{{63, 63, 63, 61}, {61, 63, 63, 63}, {31, 31, 31, 31, 31, 31, 30, 30}, {63, 63, 63, 57, 1, 1}} {
		in := parts(lengths...)
		if len(in) != api.MaxHost {
			t.Fatal(len(in))
		}
		parses(t, in, in)
		parses(t, strings.ToUpper(in), in)
	}
	for _, lengths := range [][]int{{63, 63, 63, 62}, {62, 63, 63, 63}, {31, 31, 31, 31, 31, 31, 31, 30}, {63, 63, 63, 57, 1, 2}} {
		in := parts(lengths...)
		if len(in) != api.MaxHost+1 {
			t.Fatal(len(in))
		}
		refused(t, in, api.ErrLong)
	}
	refused(t, parts(63, 63, 63, 63, 63, 63, 63, 63), api.ErrLong)
}

// Of a text that is too long nothing else is told; of one that is just not too long, what else it lacks.
func TestLongTexts(t *testing.T) {
	for _, piece := range []string{"a", ".", "-", "a.", "1.", "1", " ", "\x00", "\xff"} {
		long := strings.Repeat(piece, api.MaxHost+1)
		refused(t, long[:api.MaxHost], api.ErrForm)
		refused(t, long[:api.MaxHost+1], api.ErrLong)
		refused(t, strings.Repeat(piece, 1<<20), api.ErrLong)
	}
	refused(t, "1.2.3."+strings.Repeat("0", 1<<20)+"4", api.ErrLong)
}

func addresses() []string {
	return []string{
		"1.2.3.4", "0.0.0.0", "255.255.255.255", "127.0.0.1", "9.99.100.199", "10.20.30.40", "200.249.250.254", "255.0.0.0", "0.255.0.0", "0.0.255.0", "0.0.0.255",
	}
}

func TestAddresses(t *testing.T) {
	for _, in := range addresses() {
		parses(t, in, in)
		if !host.Address([]byte(in)) {
			t.Errorf("%q is no address", in)
		}
	}
	for n := range 300 {
		number := decimal(n)
		for place := range 4 {
			l := []string{"1", "2", "3", "4"}
			l[place] = number
			in := strings.Join(l, ".")
			if n > 255 {
				refused(t, in, api.ErrForm)
				continue
			}
			parses(t, in, in)
			if !host.Address([]byte(in)) {
				t.Errorf("%q is no address", in)
			}
		}
	}
}

// decimal: a number up to 999 as digits, no nought ahead.
func decimal(n int) string {
	l := string([]byte{decimals[n/100], decimals[n/10%10], decimals[n%10]})
	return strings.TrimLeft(l[:2], "0") + l[2:]
}

// The last part begins with a digit, and there is something wrong about the address.
func TestNeitherAddressNorHost(t *testing.T) {
	for _, in := range []string{
		"1", "0", "12", "1.2", "1.2.3", "1.2.3.4.5", "1.2.3.4.5.6.7.8", "1a", "1-a", "a.1", "a.0", "a.b.1c", "a.b.c.4", "a.2.3.4", "1.b.3.4", "1.2.c.4", "a.b.3com", "a.9z", "a.4-b", "a.b.c.d.5",
		"1.2.3.4a", "1.2.3.0x4", "0x1.2.3.4", "1.2.3.4e0", "1-1.2.3.4",
		"256.2.3.4", "1.256.3.4", "1.2.256.4", "1.2.3.256", "1.2.3.300", "1.2.3.999", "1.2.3.1000",
		"01.2.3.4", "1.02.3.4", "1.2.03.4", "1.2.3.04", "00.0.0.0", "0.0.0.00", "1.2.3.004", "001.2.3.4",
		"18446744073709551617.2.3.4", "1.2.3.18446744073709551620", "4294967297.2.3.4", "1.2.3.257", "16909060",
		"+1.2.3.4", "1.2.3.+4", " 1.2.3.4", "1.2.3.4 ", "1.2.3.4/5", "1.2.3.4:80", "1,2,3,4", "1.2.3.\u0664", "1.2.3.\uff14",
	} {
		refused(t, in, api.ErrForm)
	}
}

// Hosts that are no addresses, since their last part begins with no digit, whatever the others are.
func TestDigitsAheadOfTheLastPart(t *testing.T) {
	for _, in := range []string{"1.a", "1.2.a", "1.2.3.d", "1.2.3.d4", "1.2.3.4.e", "256.2.3.d", "01.2.3.d", "1a.b", "1a.2b.c3", "0.a", "00.a", "a1", "a1.b2", "a.b.c.d", "abcd", "0x1.0x2.0x3.x4"} {
		parses(t, in, in)
		parses(t, strings.ToUpper(in), in)
		if host.Address([]byte(in)) || host.Address([]byte(strings.ToUpper(in))) {
			t.Errorf("%q is an address", in)
		}
	}
	if host.Address(nil) || host.Address([]byte{}) {
		t.Error("nothing is an address")
	}
}

// P4.2

func TestUp(t *testing.T) {
	up(t, "a.b-c.org", "a.b-c.org", "b-c.org", "org")
	up(t, "org", "org")
	up(t, "a.org", "a.org", "org")
	up(t, "a.a.a", "a.a.a", "a.a", "a")
	up(t, "1.2.3.d", "1.2.3.d", "2.3.d", "3.d", "d")
	up(t, "0.1.2.3.4.e", "0.1.2.3.4.e", "1.2.3.4.e", "2.3.4.e", "3.4.e", "4.e", "e")
	up(t, "a.b.c.d.e.f.g.h", "a.b.c.d.e.f.g.h", "b.c.d.e.f.g.h", "c.d.e.f.g.h", "d.e.f.g.h", "e.f.g.h", "f.g.h", "g.h", "h")
	long := parts(63, 63, 63, 61)
	up(t, long, long, long[64:], long[128:], long[192:])
}

func TestUpOfAddresses(t *testing.T) {
	for _, in := range addresses() {
		up(t, in, in)
	}
}

func TestUpOfNoCanon(t *testing.T) {
	for _, in := range []string{"", ".", "A", "A.org", "a.Org", "a.orG", "a.b-C.org", "Z.1.z", "a..b", "a.b.", ".a.b", "-a.b", "a.1", "1", "1.2.3", "a.b_c.org", "a b", "1.2.3.256", "1.2.3.04", "\u00e9.org", "a.org/", "*.a.org"} {
		up(t, in)
		for _, domain := range []string{in, "", "a", "org", "b", "1", "a.org", "3", "z", "c.org"} {
			within(t, in, domain, false)
		}
	}
	up(t, parts(63, 63, 63, 62))
	up(t, strings.Repeat("a.", api.MaxLabels)+"a")
	for range host.Up(nil) {
		t.Error("something is above nothing")
	}
}

// What is parsed is in canon: something is above it, unlike above the text itself.
func TestUpOfWhatIsParsed(t *testing.T) {
	h, _ := host.Parse([]byte("A.B-c.Org"))
	up(t, string(h), "a.b-c.org", "b-c.org", "org")
	up(t, "A.B-c.Org")
}

// stopped: how often an iterator goes on telling when it is stopped at the n-th piece.
func stopped(pieces iter.Seq[[]byte], n int) int {
	told := 0
	pieces(func([]byte) bool {
		told++
		return told < n
	})
	return told
}

func TestStopEarly(t *testing.T) {
	for _, in := range []string{"a.b.c.d", "a.org", "org", "1.2.3.4"} {
		above := host.Up([]byte(in))
		all := texts(above)
		for n := 1; n <= len(all); n++ {
			if told := stopped(above, n); told != n {
				t.Errorf("Up(%q): stopped at %d, told %d", in, n, told)
			}
		}
		if again := texts(above); !slices.Equal(again, all) {
			t.Errorf("Up(%q) after stopping early: %q", in, again)
		}
	}
}

func TestGoneThroughTwice(t *testing.T) {
	above := host.Up([]byte("a.b.c.d"))
	first := texts(above)
	if second := texts(above); !slices.Equal(second, first) {
		t.Errorf("the second time: %q, not %q", second, first)
	}
	passes := 0
	for range above {
		if inner := texts(above); !slices.Equal(inner, first) {
			t.Errorf("one pass within another one: %q", inner)
		}
		passes++
	}
	if passes != 4 {
		t.Errorf("one pass around another one: %d pieces", passes)
	}
}

func TestWithin(t *testing.T) {
	for _, domain := range []string{"a.b-c.org", "b-c.org", "org"} {
		within(t, "a.b-c.org", domain, true)
	}
	for _, domain := range []string{
		"", ".", "c.org", "-c.org", "rg", "g", ".org", ".b-c.org", "org.", "a.b-c.org.", "a", "a.b-c", "b-c", "x.a.b-c.org", "d-c.org", "b-c.orh", "com", "b-c_org", "b-cxorg", "*.org", "a.org",
		"Org", "ORG", "B-c.org", "b-c.Org", "A.b-c.org", " org", "org ", "org\x00",
	} {
		within(t, "a.b-c.org", domain, false)
	}
	within(t, "org", "a.org", false)
	within(t, "ab.org", "b.org", false)
	within(t, "a.a.a", "a.a", true)
	within(t, "1.2.3.d", "3.d", true)
	within(t, "1.2.3.d", "d", true)
	if host.Within(nil, nil) || host.Within([]byte("a.org"), nil) || host.Within(nil, []byte("a.org")) {
		t.Error("Within of nil")
	}
}

func TestWithinAddresses(t *testing.T) {
	for _, in := range addresses() {
		within(t, in, in, true)
		l := strings.Split(in, ".")
		for i := 1; i < 4; i++ {
			within(t, in, strings.Join(l[i:], "."), false)
			within(t, in, strings.Join(l[:i], "."), false)
		}
		within(t, "a."+in, in, false)
	}
	within(t, "1.2.3.4", "1.2.3.5", false)
	within(t, "11.2.3.4", "1.2.3.4", false)
}
