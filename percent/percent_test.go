package percent_test

import (
	"math"
	"strings"
	"testing"

	"cordon/api"
	"cordon/percent"
)

// unknown: places that there are none of.
func unknown() []percent.Place {
	return []percent.Place{-1, 3, 4, 255, 256, 257, math.MinInt, math.MaxInt}
}

func encodes(t *testing.T, in string, p percent.Place, want string) {
	t.Helper()
	if got := string(percent.Encode([]byte(in), p)); got != want {
		t.Errorf("Encode(%q, %d): %q, not %q", in, p, got, want)
	}
}

func decodes(t *testing.T, in, want string) {
	t.Helper()
	if got, e := percent.Decode([]byte(in)); string(got) != want || e != api.OK {
		t.Errorf("Decode(%q): %q, %d, not %q", in, got, int(e), want)
	}
}

func canon(t *testing.T, in string, p percent.Place, want string) {
	t.Helper()
	if got, e := percent.Canon([]byte(in), p); string(got) != want || e != api.OK {
		t.Errorf("Canon(%q, %d): %q, %d, not %q", in, p, got, int(e), want)
	}
}

// P3.1

func TestPlaces(t *testing.T) {
	if percent.Part != 0 || percent.Path != 1 || percent.Query != 2 {
		t.Error(percent.Part, percent.Path, percent.Query)
	}
}

func TestEncode(t *testing.T) {
	encodes(t, "a b/", percent.Path, "a%20b/")
	encodes(t, "a b/", percent.Part, "a%20b%2F")
	encodes(t, "a b/?", percent.Query, "a%20b/?")
	encodes(t, "a?b", percent.Path, "a%3Fb")
	encodes(t, "a?b", percent.Part, "a%3Fb")
	encodes(t, "Az09-._~", percent.Part, "Az09-._~")
	encodes(t, "/:@!$&'()*+,;=", percent.Path, "/:@!$&'()*+,;=")
	encodes(t, "/:@!$&'()*+,;=?", percent.Query, "/:@!$&'()*+,;=?")
	encodes(t, "/:@!$&'()*+,;=?", percent.Part, "%2F%3A%40%21%24%26%27%28%29%2A%2B%2C%3B%3D%3F")
	for _, p := range []percent.Place{percent.Part, percent.Path, percent.Query} {
		encodes(t, "", p, "")
		encodes(t, "%", p, "%25")
		encodes(t, "%41", p, "%2541")
		encodes(t, "%2f", p, "%252f")
		encodes(t, "#[]\"<>\\^`{|}", p, "%23%5B%5D%22%3C%3E%5C%5E%60%7B%7C%7D")
		encodes(t, "\x00\t\r\n\x1f\x7f\x80\xab\xff", p, "%00%09%0D%0A%1F%7F%80%AB%FF")
		encodes(t, "\u00e9\u2028", p, "%C3%A9%E2%80%A8")
		if got := percent.Encode(nil, p); len(got) != 0 {
			t.Errorf("Encode(nil, %d): %q", p, got)
		}
	}
}

// standing: the bytes that stand in a place as they are, written out.
func standing(p percent.Place) string {
	free := "ABCDEFGHIJKLMNOPQRSTUVWXYZabcdefghijklmnopqrstuvwxyz0123456789-._~"
	switch p {
	case percent.Path:
		return free + "/:@!$&'()*+,;="
	case percent.Query:
		return free + "/:@!$&'()*+,;=?"
	}
	return free
}

// hexadecimal: a byte as a percent sign and two of these digits.
func hexadecimal(b byte, digits string) string {
	return "%" + digits[b/16:b/16+1] + digits[b%16:b%16+1]
}

const (
	great = "0123456789ABCDEF"
	small = "0123456789abcdef"
)

func TestEachByteInEachPlace(t *testing.T) {
	for _, p := range append(unknown(), percent.Part, percent.Path, percent.Query) {
		for i := range 256 {
			b := byte(i)
			as := string([]byte{b})
			encoded := hexadecimal(b, great)
			want := encoded
			if strings.Contains(standing(p), as) {
				want = as
			}
			encodes(t, as, p, want)
			encodes(t, "x"+as+as+"y", p, "x"+want+want+"y")
			if b != '%' {
				canon(t, as, p, want)
				canon(t, "x"+as+as+"y", p, "x"+want+want+"y")
				decodes(t, as, as)
			}
			if want = encoded; strings.Contains(standing(percent.Part), as) {
				want = as
			}
			canon(t, encoded, p, want)
			canon(t, hexadecimal(b, small), p, want)
			canon(t, "x"+encoded+hexadecimal(b, small)+"y", p, "x"+want+want+"y")
		}
	}
}

func TestUnknownPlaces(t *testing.T) {
	for _, p := range unknown() {
		encodes(t, "a b/?~", p, "a%20b%2F%3F~")
		canon(t, "a b/?%7e", p, "a%20b%2F%3F~")
		if got, e := percent.Canon([]byte("%"), p); got != nil || e != api.ErrForm {
			t.Errorf("Canon of a lone sign, %d: %q, %d", p, got, int(e))
		}
	}
}

func TestDecode(t *testing.T) {
	decodes(t, "", "")
	decodes(t, "abc", "abc")
	decodes(t, "a%20b%2F", "a b/")
	decodes(t, "%2f%2F%aA%Aa", "//\xaa\xaa")
	decodes(t, "%00%ff", "\x00\xff")
	decodes(t, "a b/?#\x00\xff+", "a b/?#\x00\xff+")
	decodes(t, "%25", "%")
	decodes(t, "%2541", "%41")
	decodes(t, "%25%34%31", "%41")
	decodes(t, "%411", "A1")
	decodes(t, "41%4141", "41A41")
	decodes(t, "%C3%A9", "\u00e9")
	if got, e := percent.Decode(nil); len(got) != 0 || e != api.OK {
		t.Errorf("Decode(nil): %q, %d", got, int(e))
	}
}

func TestCanon(t *testing.T) {
	canon(t, "%7e%2f ", percent.Path, "~%2F%20")
	canon(t, "%7e%2f ", percent.Part, "~%2F%20")
	canon(t, "/%2f", percent.Path, "/%2F")
	canon(t, "/%2f", percent.Part, "%2F%2F")
	canon(t, "?%3f", percent.Query, "?%3F")
	canon(t, "?%3f", percent.Path, "%3F%3F")
	canon(t, "%3a:%40@", percent.Path, "%3A:%40@")
	canon(t, "%41%5a%61%7a%30%39%2d%2e%5f%7e", percent.Path, "AZaz09-._~")
	canon(t, "%c3%A9\xc3\xa9", percent.Query, "%C3%A9%C3%A9")
	for _, p := range []percent.Place{percent.Part, percent.Path, percent.Query} {
		canon(t, "", p, "")
		canon(t, "aZ9", p, "aZ9")
		canon(t, "%25", p, "%25")
		canon(t, "%2541", p, "%2541")
		canon(t, "%2525", p, "%2525")
		canon(t, "%25%34%31", p, "%2541")
		canon(t, "%aa\xaa", p, "%AA%AA")
		canon(t, "\x00#[]\xff", p, "%00%23%5B%5D%FF")
		if got, e := percent.Canon(nil, p); len(got) != 0 || e != api.OK {
			t.Errorf("Canon(nil, %d): %q, %d", p, got, int(e))
		}
	}
}

// refused: both calls that ask for digits answer ErrForm, and nothing beside it.
func refused(t *testing.T, in string) {
	t.Helper()
	if got, e := percent.Decode([]byte(in)); got != nil || e != api.ErrForm {
		t.Errorf("Decode(%q): %q, %d", in, got, int(e))
	}
	for _, p := range append(unknown(), percent.Part, percent.Path, percent.Query) {
		if got, e := percent.Canon([]byte(in), p); got != nil || e != api.ErrForm {
			t.Errorf("Canon(%q, %d): %q, %d", in, p, got, int(e))
		}
	}
}

func TestSignsWithoutDigits(t *testing.T) {
	for _, in := range []string{
		"%", "%4", "%g0", "%0g", "%G0", "%0G", "a%", "a%4", "%%", "%%%", "%%41", "%4%41", "%41%", "%41%4", "%41%4x",
		"% 4", "%4 ", "%+4", "%-4", "%0x", "%x4", "%_4", "%4_", "%\x00\x00", "%\xff\xff", "%\xc3\xa9", "%u0041", "%:0", "%0:", "%/0", "%0/", "%@0", "%`a",
		"abc%zzdef", "%20%20%2", "%25%", "%25%2",
	} {
		refused(t, in)
	}
}

func TestAnyTwoBytesBehindASign(t *testing.T) {
	hex := great + small
	for i := range 256 {
		for j := range 256 {
			in := string([]byte{'%', byte(i), byte(j)})
			first, second := strings.IndexByte(hex, byte(i)), strings.IndexByte(hex, byte(j))
			got, e := percent.Decode([]byte(in))
			if first < 0 || second < 0 {
				if got != nil || e != api.ErrForm {
					t.Errorf("Decode(%q): %q, %d", in, got, int(e))
				}
				if got, e := percent.Canon([]byte(in), percent.Query); got != nil || e != api.ErrForm {
					t.Errorf("Canon(%q): %q, %d", in, got, int(e))
				}
				continue
			}
			b := byte(first%16*16 + second%16)
			if string(got) != string([]byte{b}) || e != api.OK {
				t.Errorf("Decode(%q): %q, %d", in, got, int(e))
			}
		}
	}
}

// No limit of texts is asked for here.
func TestLongTexts(t *testing.T) {
	n := 5 * api.MaxText
	encodes(t, strings.Repeat("/ ", n), percent.Path, strings.Repeat("/%20", n))
	decodes(t, strings.Repeat("%2f%20a", n), strings.Repeat("/ a", n))
	canon(t, strings.Repeat("/%2f%7e ", n), percent.Path, strings.Repeat("/%2F~%20", n))
	refused(t, strings.Repeat("%41", n)+"%")
	refused(t, "%"+strings.Repeat("%41", n))
}
