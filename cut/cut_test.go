package cut_test

import (
	"bytes"
	"iter"
	"math"
	"slices"
	"strings"
	"testing"

	"cordon/cut"
)

// texts: what an iterator of pieces tells, as strings.
func texts(pieces iter.Seq[[]byte]) []string {
	var l []string
	for p := range pieces {
		l = append(l, string(p))
	}
	return l
}

// counted: what Split tells; it fails when the places aren't 0, 1, ..
func counted(t *testing.T, pieces iter.Seq2[int, []byte]) []string {
	t.Helper()
	var l []string
	for i, p := range pieces {
		if i != len(l) {
			t.Errorf("the place is %d, not %d", i, len(l))
		}
		l = append(l, string(p))
	}
	return l
}

func same(t *testing.T, what string, got, want []string) {
	t.Helper()
	if !slices.Equal(got, want) {
		t.Errorf("%q: %q, not %q", what, got, want)
	}
}

// P1.1

func TestLines(t *testing.T) {
	for _, c := range []struct {
		in   string
		want []string
	}{
		{"a\r\nb", []string{"a", "b"}},
		{"a\nb\n", []string{"a", "b"}},
		{"one", []string{"one"}},
		{"", nil},
		{"\n", []string{""}},
		{"\n\n", []string{"", ""}},
		{"a\n\n", []string{"a", ""}},
		{"\n\na", []string{"", "", "a"}},
		{"a\n\nb", []string{"a", "", "b"}},
		{"\r", []string{""}},
		{"\r\n", []string{""}},
		{"a\n\r", []string{"a", ""}},
		{"a\n\r\n", []string{"a", ""}},
		{"a\r", []string{"a"}},
		{"a\r\r", []string{"a\r"}},
		{"a\r\r\nb", []string{"a\r", "b"}},
		{"\ra\rb\n", []string{"\ra\rb"}},
		{"\n\ra", []string{"", "\ra"}},
		{" a\t\n b ", []string{" a\t", " b "}},
		{"a\vb\fc\x85d\u2028e\u0085\x00", []string{"a\vb\fc\x85d\u2028e\u0085\x00"}},
		{"\xff\xfe\n\x00", []string{"\xff\xfe", "\x00"}},
	} {
		same(t, "Lines of "+c.in, texts(cut.Lines([]byte(c.in))), c.want)
	}
	same(t, "Lines of nil", texts(cut.Lines(nil)), nil)
}

func TestSplit(t *testing.T) {
	for _, c := range []struct {
		in   string
		by   byte
		want []string
	}{
		{"a,,b", ',', []string{"a", "", "b"}},
		{"a,b", ',', []string{"a", "b"}},
		{"ab", ',', []string{"ab"}},
		{"", ',', []string{""}},
		{",", ',', []string{"", ""}},
		{",,", ',', []string{"", "", ""}},
		{",a,", ',', []string{"", "a", ""}},
		{"a\r\nb\n", '\n', []string{"a\r", "b", ""}},
		{"a b\t c", ' ', []string{"a", "b\t", "c"}},
		{"a\x00b", 0, []string{"a", "b"}},
		{"a\xffb\xff", 0xff, []string{"a", "b", ""}},
		{"\u00e9", 0xa9, []string{"\xc3", ""}},
		{"aXbx", 'x', []string{"aXb", ""}},
	} {
		same(t, "Split of "+c.in, counted(t, cut.Split([]byte(c.in), c.by)), c.want)
	}
	same(t, "Split of nil", counted(t, cut.Split(nil, 0)), []string{""})
}

func TestFields(t *testing.T) {
	for _, c := range []struct {
		in   string
		want []string
	}{
		{"a b", []string{"a", "b"}},
		{" \ta \t bc\t", []string{"a", "bc"}},
		{"a", []string{"a"}},
		{"", nil},
		{" ", nil},
		{"\t \t", nil},
		{"a\nb\r c", []string{"a\nb\r", "c"}},
		{"\n", []string{"\n"}},
		{"a\vb\fc\x85\xa0d\u00a0e\u3000\x00", []string{"a\vb\fc\x85\xa0d\u00a0e\u3000\x00"}},
	} {
		same(t, "Fields of "+c.in, texts(cut.Fields([]byte(c.in))), c.want)
	}
	same(t, "Fields of nil", texts(cut.Fields(nil)), nil)
}

// stopped: how often an iterator goes on telling when it is stopped at the n-th piece.
func stopped(pieces iter.Seq[[]byte], n int) int {
	told := 0
	pieces(func([]byte) bool {
		told++
		return told < n
	})
	return told
}

// unplaced: an iterator's pieces without their places.
func unplaced(pieces iter.Seq2[int, []byte]) iter.Seq[[]byte] {
	return func(yield func([]byte) bool) {
		pieces(func(_ int, p []byte) bool { return yield(p) })
	}
}

// cutters: the three that tell pieces, each with a text that they cut into four.
func cutters() map[string]func(t []byte) iter.Seq[[]byte] {
	return map[string]func(t []byte) iter.Seq[[]byte]{
		"Lines":  cut.Lines,
		"Fields": cut.Fields,
		"Split":  func(t []byte) iter.Seq[[]byte] { return unplaced(cut.Split(t, ';')) },
	}
}

func fourPieces(name string) []byte {
	by := map[string]string{"Lines": "\n", "Fields": " ", "Split": ";"}[name]
	return []byte("ab" + by + "cd" + by + "ef" + by + "gh")
}

func TestStopEarly(t *testing.T) {
	for name, f := range cutters() {
		pieces := f(fourPieces(name))
		for n := 1; n <= 4; n++ {
			if told := stopped(pieces, n); told != n {
				t.Errorf("%s: stopped at %d, told %d", name, n, told)
			}
		}
		same(t, name+" after stopping early", texts(pieces), []string{"ab", "cd", "ef", "gh"})
	}
	for i := range cut.Split([]byte("a,b,c"), ',') {
		if i == 1 {
			break
		}
		if i > 1 {
			t.Error("Split goes on after a break")
		}
	}
}

func TestGoneThroughTwice(t *testing.T) {
	for name, f := range cutters() {
		pieces := f(fourPieces(name))
		first := texts(pieces)
		same(t, name+" the second time", texts(pieces), first)
		within := 0
		for p := range pieces {
			same(t, name+" within "+string(p), texts(pieces), first)
			within++
		}
		if within != 4 {
			t.Errorf("%s: one pass within another one: %d pieces", name, within)
		}
	}
	twice := cut.Split([]byte("a,b"), ',')
	counted(t, twice)
	counted(t, twice)
}

// P1.2

func TestTrim(t *testing.T) {
	for in, want := range map[string]string{
		"a": "a", " a": "a", "a ": "a", "\ta\t": "a", " \t a b\tc \t ": "a b\tc",
		"": "", " ": "", "\t": "", " \t \t": "",
		"\n a \r": "\n a \r", " \n ": "\n", "\va\f": "\va\f", "\xa0a\x85": "\xa0a\x85", "\u00a0": "\u00a0", "\x00 ": "\x00",
	} {
		if got := string(cut.Trim([]byte(in))); got != want {
			t.Errorf("Trim(%q): %q, not %q", in, got, want)
		}
	}
	if got := cut.Trim(nil); len(got) != 0 {
		t.Error(got)
	}
}

func TestAt(t *testing.T) {
	for _, c := range []struct {
		in            string
		b             byte
		before, after string
		found         bool
	}{
		{"a=b", '=', "a", "b", true},
		{"a=b=c", '=', "a", "b=c", true},
		{"=b", '=', "", "b", true},
		{"a=", '=', "a", "", true},
		{"=", '=', "", "", true},
		{"==", '=', "", "=", true},
		{"ab", '=', "ab", "", false},
		{"", '=', "", "", false},
		{"a\x00b", 0, "a", "b", true},
		{"a\xffb", 0xff, "a", "b", true},
		{"aXbxc", 'x', "aXb", "c", true},
	} {
		before, after, found := cut.At([]byte(c.in), c.b)
		if string(before) != c.before || string(after) != c.after || found != c.found {
			t.Errorf("At(%q, %q): %q, %q, %t", c.in, c.b, before, after, found)
		}
	}
	if before, after, found := cut.At(nil, 0); len(before) != 0 || len(after) != 0 || found {
		t.Error(before, after, found)
	}
}

const (
	greatLetters = "ABCDEFGHIJKLMNOPQRSTUVWXYZ"
	smallLetters = "abcdefghijklmnopqrstuvwxyz"
	tokenBytes   = greatLetters + smallLetters + "0123456789" + "!#$%&'*+-.^_`|~"
)

// lowerOf: the small letter of a great one, every other byte as it is.
func lowerOf(b byte) byte {
	if i := strings.IndexByte(greatLetters, b); i >= 0 {
		return smallLetters[i]
	}
	return b
}

func TestLower(t *testing.T) {
	all, want := make([]byte, 256), make([]byte, 256)
	for i := range all {
		all[i], want[i] = byte(i), lowerOf(byte(i))
	}
	if got := cut.Lower(all); !bytes.Equal(got, want) {
		t.Errorf("Lower of all bytes: %q", got)
	}
	for in, want := range map[string]string{"": "", "HTTP://A.Org": "http://a.org", "\u00c9\u0130\u212a": "\u00c9\u0130\u212a"} {
		if got := string(cut.Lower([]byte(in))); got != want {
			t.Errorf("Lower(%q): %q", in, got)
		}
	}
	if got := cut.Lower(nil); len(got) != 0 {
		t.Error(got)
	}
}

func TestSame(t *testing.T) {
	for i := range 256 {
		for j := range 256 {
			a, b := byte(i), byte(j)
			want := lowerOf(a) == lowerOf(b)
			if got := cut.Same([]byte{'x', a, 'Y'}, []byte{'X', b, 'y'}); got != want {
				t.Errorf("Same with %q and %q: %t", a, b, got)
			}
		}
	}
	for _, c := range []struct {
		a, b string
		want bool
	}{
		{"", "", true}, {"Host", "hOST", true}, {"a", "", false}, {"", "a", false}, {"a", "aa", false}, {"AA", "a", false},
		{"a", "b", false}, {"ab", "ba", false}, {"k", "\u212a", false}, {"\u00e9", "\u00c9", false}, {"a ", "a", false},
		{"\xff", "\xfe", false}, {"\xff", "\ufffd", false},
	} {
		if got := cut.Same([]byte(c.a), []byte(c.b)); got != c.want {
			t.Errorf("Same(%q, %q): %t", c.a, c.b, got)
		}
	}
	if !cut.Same(nil, nil) || !cut.Same(nil, []byte{}) || cut.Same(nil, []byte{0}) {
		t.Error("Same of nil")
	}
}

func TestToken(t *testing.T) {
	for i := range 256 {
		b := byte(i)
		want := strings.IndexByte(tokenBytes, b) >= 0
		for _, text := range []string{string([]byte{b}), string([]byte{b, 'a'}), string([]byte{'a', b}), string([]byte{'a', b, 'a'})} {
			if got := cut.Token([]byte(text)); got != want {
				t.Errorf("Token(%q): %t", text, got)
			}
		}
	}
	if !cut.Token([]byte(tokenBytes)) {
		t.Error("all that may be in a token isn't one")
	}
	if cut.Token(nil) || cut.Token([]byte{}) || cut.Token([]byte("\u00e9")) {
		t.Error("no token is told to be one")
	}
}

// P1.3

func TestNumber(t *testing.T) {
	for _, c := range []struct {
		in   string
		most int
		n    int
		ok   bool
	}{
		{"0", 99, 0, true}, {"7", 99, 7, true}, {"42", 99, 42, true}, {"100", 999, 100, true}, {"1234567890", math.MaxInt32, 1234567890, true},
		{"98", 99, 98, true}, {"99", 99, 99, true}, {"100", 99, 0, false}, {"199", 99, 0, false}, {"990", 99, 0, false},
		{"9", 10, 9, true}, {"10", 10, 10, true}, {"11", 10, 0, false}, {"19", 19, 19, true}, {"20", 19, 0, false},
		{"5", 3, 0, false}, {"3", 3, 3, true}, {"13", 3, 0, false},
		{"0", 0, 0, true}, {"1", 0, 0, false}, {"10", 0, 0, false},
		{"0", -1, 0, false}, {"1", -1, 0, false}, {"0", math.MinInt, 0, false}, {"12", math.MinInt, 0, false},
		{"07", 99, 0, false}, {"00", 99, 0, false}, {"01", 1, 0, false}, {"007", 99, 0, false}, {"000000", 99, 0, false},
		{"", 99, 0, false}, {" ", 99, 0, false}, {"+1", 99, 0, false}, {"-1", 99, 0, false}, {"-0", 99, 0, false},
		{" 1", 99, 0, false}, {"1 ", 99, 0, false}, {"1 2", 99, 0, false}, {"1\n", 99, 0, false}, {"1_0", 99, 0, false}, {"1.", 99, 0, false},
		{"0x1", 99, 0, false}, {"1a", 99, 0, false}, {"a1", 99, 0, false}, {"a", 99, 0, false}, {"1e1", 99, 0, false},
		{"/", 99, 0, false}, {":", 99, 0, false}, {"1/", 99, 0, false}, {"1:", 99, 0, false}, {"\x00", 99, 0, false},
		{"\u0661", 99, 0, false}, {"\xb1", 99, 0, false},
		{"9223372036854775806", math.MaxInt64, math.MaxInt64 - 1, true},
		{"9223372036854775807", math.MaxInt64, math.MaxInt64, true},
		{"9223372036854775808", math.MaxInt64, 0, false},
		{"9223372036854775810", math.MaxInt64, 0, false},
		{"9223372036854775807", math.MaxInt64 - 1, 0, false},
		{"18446744073709551617", math.MaxInt64, 0, false},
		{"92233720368547758070", math.MaxInt64, 0, false},
		{"18446744073709551617", 99, 0, false},
		{strings.Repeat("1", 5000), math.MaxInt64, 0, false},
		{"1" + strings.Repeat("0", 64), 99, 0, false},
		{"1073741824", 1 << 30, 1 << 30, true}, {"1073741825", 1 << 30, 0, false},
	} {
		if n, ok := cut.Number([]byte(c.in), c.most); n != c.n || ok != c.ok {
			t.Errorf("Number(%.30q, %d): %d, %t", c.in, c.most, n, ok)
		}
	}
	if n, ok := cut.Number(nil, 99); n != 0 || ok {
		t.Error(n, ok)
	}
}

// No bytes but the ten digits count, wherever they stand.
func TestNumberBytes(t *testing.T) {
	for i := range 256 {
		b := byte(i)
		digit := strings.IndexByte("0123456789", b)
		n, ok := cut.Number([]byte{b}, 9)
		if ok != (digit >= 0) || n != max(digit, 0) {
			t.Errorf("Number(%q): %d, %t", b, n, ok)
		}
		n, ok = cut.Number([]byte{'4', b, '2'}, 999)
		if ok != (digit >= 0) || ok && n != 402+10*digit || !ok && n != 0 {
			t.Errorf("Number of 4, %q, 2: %d, %t", b, n, ok)
		}
	}
}

// Each number is at most each most just when it is.
func TestNumberMost(t *testing.T) {
	for n := range 250 {
		digits := []byte{byte('0' + n/100), byte('0' + n/10%10), byte('0' + n%10)}
		digits = digits[min(2, len(digits)-len(bytes.TrimLeft(digits, "0"))):]
		for most := -3; most < 260; most++ {
			want := n
			if n > most {
				want = 0
			}
			if got, ok := cut.Number(digits, most); got != want || ok != (n <= most) {
				t.Fatalf("Number(%q, %d): %d, %t", digits, most, got, ok)
			}
		}
	}
}
