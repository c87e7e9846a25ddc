package header_test

import (
	"iter"
	"slices"
	"strconv"
	"strings"
	"testing"

	"cordon/api"
	"cordon/header"
)

const (
	letters    = "ABCDEFGHIJKLMNOPQRSTUVWXYZabcdefghijklmnopqrstuvwxyz"
	tokenBytes = letters + "0123456789" + "!#$%&'*+-.^_`|~"
)

// line: how the tests write a field.
func line(f header.Field) string { return string(f.Name) + "=" + string(f.Value) }

// lines: the fields that an iterator tells, as the tests write them.
func lines(fields iter.Seq[header.Field]) []string {
	var l []string
	for f := range fields {
		l = append(l, line(f))
	}
	return l
}

// texts: the values that an iterator tells, as strings.
func texts(values iter.Seq[[]byte]) []string {
	var l []string
	for v := range values {
		l = append(l, string(v))
	}
	return l
}

func same(t *testing.T, what string, got, want []string) {
	t.Helper()
	if !slices.Equal(got, want) {
		t.Errorf("%.120q: %.400q, not %.400q", what, got, want)
	}
}

// has: a header has these fields, as the tests write them, and no other ones.
func has(t *testing.T, what string, h header.Header, want []string) {
	t.Helper()
	same(t, what, lines(h.All()), want)
	if h.Len() != len(want) {
		t.Errorf("%.120q: Len %d, not %d", what, h.Len(), len(want))
	}
}

// parses: a text is parsed to these fields and this body.
func parses(t *testing.T, in string, want []string, body string) {
	t.Helper()
	h, b, e := header.Parse([]byte(in))
	if e != api.OK || string(b) != body {
		t.Errorf("Parse(%.120q): body %.120q, %d, not %.120q", in, b, int(e), body)
	}
	has(t, "Parse("+in+")", h, want)
}

// refuses: a text isn't parsed, with this error and nothing beside it.
func refuses(t *testing.T, in string, want api.Errno) {
	t.Helper()
	h, b, e := header.Parse([]byte(in))
	if e != want || len(b) != 0 || h.Len() != 0 || lines(h.All()) != nil {
		t.Errorf("Parse(%.120q): %.120q, %.120q, %d, not %d", in, lines(h.All()), b, int(e), int(want))
	}
}

// field: the field that the tests write so.
func field(text string) header.Field {
	name, value, _ := strings.Cut(text, "=")
	return header.Field{Name: []byte(name), Value: []byte(value)}
}

// fields: those that the tests write so.
func fields(l ...string) []header.Field {
	var all []header.Field
	for _, text := range l {
		all = append(all, field(text))
	}
	return all
}

// of: the header of some fields, that there is.
func of(t *testing.T, l ...string) header.Header {
	t.Helper()
	h, e := header.Of(fields(l...)...)
	if e != api.OK {
		t.Fatalf("Of %.200q: %d", l, int(e))
	}
	return h
}

// refusesFields: there is no header of some fields, with this error and nothing beside it.
func refusesFields(t *testing.T, want api.Errno, l ...header.Field) {
	t.Helper()
	h, e := header.Of(l...)
	if e != want || h.Len() != 0 || lines(h.All()) != nil {
		t.Errorf("Of %.200q: %.120q, %d, not %d", lines(slices.Values(l)), lines(h.All()), int(e), int(want))
	}
}

// numbered: so many fields, as the tests write them.
func numbered(n int) []string {
	var l []string
	for i := range n {
		l = append(l, "N"+strconv.Itoa(i)+"=v"+strconv.Itoa(i))
	}
	return l
}

// block: the lines of some fields, as the tests write them, each with an end of line behind it.
func block(end string, l ...string) string {
	var b strings.Builder
	for _, text := range l {
		b.WriteString(strings.Replace(text, "=", ": ", 1) + end)
	}
	return b.String()
}

// P11.1: Parse

func TestParseBlockAndBody(t *testing.T) {
	for _, c := range []struct {
		in   string
		want []string
		body string
	}{
		// No text at all, and an empty line alone.
		{"", nil, ""}, {"\n", nil, ""}, {"\r\n", nil, ""}, {"\r", nil, ""},
		{"\nx", nil, "x"}, {"\r\nx", nil, "x"}, {"\n\n", nil, "\n"}, {"\r\n\r\nx", nil, "\r\nx"}, {"\n\r", nil, "\r"}, {"\r\n\r", nil, "\r"},

		// Line feeds alone, with carriage returns, and mixed.
		{"A: b\r\n\r\nx", []string{"A=b"}, "x"}, {"A: b\n\nx", []string{"A=b"}, "x"}, {"A: b\r\n\nx", []string{"A=b"}, "x"}, {"A: b\n\r\nx", []string{"A=b"}, "x"},
		{"A: b\r\nC: d\n\r\nx", []string{"A=b", "C=d"}, "x"}, {"A: b\nC: d\r\n\nx", []string{"A=b", "C=d"}, "x"},

		// Without an empty line, with and without a line feed behind the last line.
		{"A: b", []string{"A=b"}, ""}, {"A: b\n", []string{"A=b"}, ""}, {"A: b\r\n", []string{"A=b"}, ""}, {"A: b\r", []string{"A=b"}, ""},
		{"A: b\nC: d", []string{"A=b", "C=d"}, ""}, {"A: b\r\nC: d\r\n", []string{"A=b", "C=d"}, ""}, {"A: b\r\nC: d\r", []string{"A=b", "C=d"}, ""},

		// The empty line is the last one, and its end isn't whole.
		{"A: b\n\r", []string{"A=b"}, ""}, {"A: b\r\n\r", []string{"A=b"}, ""}, {"A: b\n\n", []string{"A=b"}, ""}, {"A: b\r\n\r\n", []string{"A=b"}, ""},

		// Whatever the body is: it has empty lines, it begins or ends with one, it looks like fields, it has any bytes.
		{"A: b\n\n\n", []string{"A=b"}, "\n"}, {"A: b\n\n\r\n", []string{"A=b"}, "\r\n"}, {"A: b\r\n\r\nx\n\ny\r\n\r\n", []string{"A=b"}, "x\n\ny\r\n\r\n"},
		{"A: b\n\nC: d\n", []string{"A=b"}, "C: d\n"}, {"A: b\n\n\r", []string{"A=b"}, "\r"}, {"A: b\n\n \tx\t ", []string{"A=b"}, " \tx\t "}, {"A: b\n\n\x00\xff\r", []string{"A=b"}, "\x00\xff\r"},
	} {
		parses(t, c.in, c.want, c.body)
	}
	h, b, e := header.Parse(nil)
	if h.Len() != 0 || len(b) != 0 || e != api.OK {
		t.Errorf("Parse of nil: %d, %q, %d", h.Len(), b, int(e))
	}
}

func TestParseValues(t *testing.T) {
	for in, want := range map[string]string{
		"A:b": "b", "A: b": "b", "A:  b": "b", "A:\tb": "b", "A: \t b \t ": "b", "A:b ": "b", "A:b\t": "b",
		"A:": "", "A: ": "", "A:\t": "", "A: \t \t": "", // empty, and of blanks alone
		"A: b c": "b c", "A: b \t c ": "b \t c", "A: ,;= ": ",;=",
		"A:b:c": "b:c", "A: b: c": "b: c", "A::": ":", "A: : b :": ": b :", "A:://": "://", "A: http://a:81/x?q": "http://a:81/x?q",
		"A: \x00": "\x00", "A:\v\f": "\v\f", "A: \u00a0b\u00a0": "\u00a0b\u00a0", "A: \xff\xfe": "\xff\xfe", "A: \u00e9\u2028\u0085": "\u00e9\u2028\u0085",
	} {
		for _, end := range []string{"", "\n", "\r\n", "\r", "\n\n", "\r\n\r\n", "\n\r\n"} {
			parses(t, in+end, []string{"A=" + want}, "")
		}
		parses(t, "Z: y\n"+in+"\r\nZ: y\n\nx", []string{"Z=y", "A=" + want, "Z=y"}, "x")
	}
}

func TestParseNames(t *testing.T) {
	for _, name := range []string{"a", "A", "0", "!", "~", "Data-Label", "x.y_z", tokenBytes, strings.Repeat("a", 10000)} {
		parses(t, name+": b\n\nx", []string{name + "=b"}, "x")
	}
	// Each stands as it stood, in its place, though two be the same.
	parses(t, "B: 1\na: 2\nb: 3\nB: 1\nA: \n", []string{"B=1", "a=2", "b=3", "B=1", "A="}, "")
	for i := range len(tokenBytes) {
		parses(t, tokenBytes[i:i+1]+":b", []string{tokenBytes[i:i+1] + "=b"}, "")
	}
}

func TestParseErrForm(t *testing.T) {
	for _, wrong := range []string{
		// Without a colon.
		"x", " ", "\t", " \t ", "Ab", "a=b", "\x00", "\xff", "HTTP/1.1 200",

		// The name is empty, has a blank at an end, or is no token for another reason.
		":", ": b", ":b", "::", " :", " : b", "\t:", " A: b", "\tA: b", "A : b", "A\t: b", " A : b", "A B: c", "A\tB: c",
		"(A): b", "A/B: c", "A,B: c", "A;B: c", "A=B: c", "A@B: c", "A[B]: c", "A{B}: c", "A?: b", "<A>: b", "\"A\": b", "A\\B: c",
		"\x00: b", "A\x7f: b", "A\xff: b", "\u00c4: b", "A\v: b", "\ufeffA: b", " continued", " continued: so",

		// A carriage return within a value, at its end, in a name, or alone in a line.
		"A: b\rc", "A: \rb", "A:\rb", "A:b\r ", "A: b\r\t", "A: b\r \r", "A: \r ", "A: b\r\r", "A:\r\r", "A: \r\r", "A: b\r\r\r", "\r\r", "\r\r\r", "\rA: b", "A\r: b", "\r:b", "\r ", " \r",
	} {
		for _, end := range []string{"\n", "\r\n", "\n\n", "\r\n\r\nx", "\nA: b\r\n"} {
			refuses(t, wrong+end, api.ErrForm)
			refuses(t, "Z: y\r\nY: x\n"+wrong+end, api.ErrForm)
			refuses(t, "Z: y\r\n"+wrong+"\nalso wrong"+end, api.ErrForm)
		}
		parses(t, "A: b\n\n"+wrong, []string{"A=b"}, wrong) // behind the empty line it is none
		parses(t, "\r\n"+wrong+"\n", nil, wrong+"\n")
	}
	for _, wrong := range []string{"x", ":", ": b", " A: b", "A : b", "A: b\rc", "A:\r\r", "A: b\n c", "A: b\n ", "A: b\r\nx"} {
		refuses(t, wrong, api.ErrForm) // the last line, without a line feed
	}
}

// Of each byte: may it stand in a name, in a value, and at the value's ends?
func TestParseBytes(t *testing.T) {
	for i := range 256 {
		b := string([]byte{byte(i)})
		switch {
		case strings.Contains(tokenBytes, b):
			parses(t, "X"+b+"Y: z", []string{"X" + b + "Y=z"}, "")
		case b == ":":
			parses(t, "X"+b+"Y: z", []string{"X=Y: z"}, "")
		default:
			refuses(t, "X"+b+"Y: z", api.ErrForm)
		}
		switch b {
		case "\n", "\r":
			refuses(t, "A: x"+b+"y", api.ErrForm)
		case " ", "\t":
			parses(t, "A:"+b+"x"+b+"y"+b, []string{"A=x" + b + "y"}, "")
		default:
			parses(t, "A:"+b+"x"+b+"y"+b, []string{"A=" + b + "x" + b + "y" + b}, "")
		}
	}
}

func TestParseMaxFields(t *testing.T) {
	most := numbered(api.MaxFields)
	over := numbered(api.MaxFields + 1)
	for _, end := range []string{"\n", "\r\n"} {
		all, more := block(end, most...), block(end, over...)
		parses(t, all, most, "")
		parses(t, strings.TrimSuffix(all, end), most, "")
		parses(t, all+end+"x", most, "x")
		parses(t, all+end+more, most, more) // lines behind the empty one aren't the block's
		parses(t, all+end+"wrong", most, "wrong")
		refuses(t, more, api.ErrLong)
		refuses(t, strings.TrimSuffix(more, end), api.ErrLong)
		refuses(t, more+end+"x", api.ErrLong)

		// The one too many is wrong besides, or a line ahead of it, or behind it.
		for _, wrong := range []string{"wrong", ": b", "A : b", "A: b\rc"} {
			refuses(t, all+wrong, api.ErrForm)
			refuses(t, all+wrong+end+end+"x", api.ErrForm)
			refuses(t, wrong+end+more, api.ErrForm)
			refuses(t, block(end, most[:api.MaxFields-1]...)+wrong+end+all, api.ErrForm)
			refuses(t, more+wrong, api.ErrLong)
			refuses(t, more+wrong+end+end, api.ErrLong)
		}
	}
	refuses(t, strings.Repeat("A:\n", api.MaxFields+1), api.ErrLong) // the same name once more is one more field
	refuses(t, strings.Repeat("A: b\r\n", 100000), api.ErrLong)
}

// P11.1: Of

func TestOf(t *testing.T) {
	for _, l := range [][]string{
		nil, {"A=b"}, {"A="}, {"a=b", "A=c", "a=b"}, {"B=1", "A=2", "C=3"}, {tokenBytes + "=x"}, {"A=b c\td"}, {"A=b:c", "A=:", "A=="},
		{"A=\x00\xff", "A=\u00e9", "A=\v", "A=\u00a0", "A=,"}, numbered(api.MaxFields - 1), numbered(api.MaxFields),
	} {
		has(t, "Of", of(t, l...), l)
	}
	h, e := header.Of([]header.Field{}...)
	if h.Len() != 0 || e != api.OK {
		t.Errorf("Of no fields: %d, %d", h.Len(), int(e))
	}
	h, e = header.Of(header.Field{Name: []byte("A")}, header.Field{Name: []byte("B"), Value: []byte{}})
	if e != api.OK {
		t.Errorf("Of fields without values: %d", int(e))
	}
	has(t, "without values", h, []string{"A=", "B="})
}

func TestOfErrForm(t *testing.T) {
	var wrong []header.Field
	for _, name := range []string{"", " ", "\t", ":", "A:", ":A", " A", "A ", "A\t", "A B", "A\r", "A\n", "\r", "\n", "(", "A/B", "\x00", "\xff", "\u00c4", "A\"", "A=B", "A: b"} {
		wrong = append(wrong, header.Field{Name: []byte(name), Value: []byte("b")})
	}
	for _, value := range []string{" ", "\t", " b", "b ", "\tb", "b\t", " b ", " \t ", "\n", "\r", "\r\n", "b\n", "b\r", "b\r\n", "\nb", "\rb", "b\nc", "b\rc", "b\r\nc", "b\r\n c", "\xff\n", "\u00e9\r\u00e9"} {
		wrong = append(wrong, header.Field{Name: []byte("A"), Value: []byte(value)})
	}
	wrong = append(wrong, header.Field{}, header.Field{Value: []byte("b")}, header.Field{Name: []byte{}}, header.Field{Name: []byte(" "), Value: []byte(" ")})
	good := fields("Z=y", "Y=")
	most := fields(numbered(api.MaxFields)...)
	for _, f := range wrong {
		refusesFields(t, api.ErrForm, f)
		refusesFields(t, api.ErrForm, f, good[0])
		refusesFields(t, api.ErrForm, good[0], good[1], f)
		refusesFields(t, api.ErrForm, good[0], f, good[1], header.Field{})

		// The one too many is wrong besides, or one ahead of it, or behind it.
		refusesFields(t, api.ErrForm, slices.Concat(most, []header.Field{f})...)
		refusesFields(t, api.ErrForm, slices.Concat([]header.Field{f}, most)...)
		refusesFields(t, api.ErrForm, slices.Concat(most[1:], []header.Field{f}, most)...)
		refusesFields(t, api.ErrLong, slices.Concat(most, good[:1], []header.Field{f})...)
	}
}

func TestOfErrLong(t *testing.T) {
	refusesFields(t, api.ErrLong, fields(numbered(api.MaxFields+1)...)...)
	refusesFields(t, api.ErrLong, fields(numbered(5000)...)...)
	refusesFields(t, api.ErrLong, slices.Repeat(fields("A=b"), api.MaxFields+1)...)
	has(t, "the same one often", of(t, slices.Repeat([]string{"A=b"}, api.MaxFields)...), slices.Repeat([]string{"A=b"}, api.MaxFields))
}

// Of each byte: may it stand in a name, in a value, and at the value's ends?
func TestOfBytes(t *testing.T) {
	for i := range 256 {
		b := string([]byte{byte(i)})
		name := header.Field{Name: []byte("X" + b + "Y"), Value: []byte("z")}
		if strings.Contains(tokenBytes, b) {
			h, e := header.Of(name)
			if e != api.OK || h.Len() != 1 || lines(h.All())[0] != "X"+b+"Y=z" {
				t.Errorf("Of the name %q: %q, %d", name.Name, lines(h.All()), int(e))
			}
		} else {
			refusesFields(t, api.ErrForm, name)
		}
		within, before, behind := field("A=x"+b+"y"), field("A="+b+"y"), field("A=x"+b)
		ends := b == " " || b == "\t"
		for _, f := range []header.Field{within, before, behind} {
			atEnd := ends && line(f) != line(within)
			if b == "\r" || b == "\n" || atEnd {
				refusesFields(t, api.ErrForm, f)
				continue
			}
			has(t, "Of "+line(f), of(t, line(f)), []string{line(f)})
		}
	}
}

// P11.2

func TestText(t *testing.T) {
	for _, c := range []struct {
		fields []string
		want   string
	}{
		{nil, "\r\n"},
		{[]string{"A=b"}, "A: b\r\n\r\n"},
		{[]string{"A="}, "A: \r\n\r\n"},
		{[]string{"b=1", "A=2", "B=1", "b=1"}, "b: 1\r\nA: 2\r\nB: 1\r\nb: 1\r\n\r\n"},
		{[]string{"A=b:c d\te", "Z=:"}, "A: b:c d\te\r\nZ: :\r\n\r\n"},
		{[]string{"A=\x00\xff", "B=\u00e9"}, "A: \x00\xff\r\nB: \u00e9\r\n\r\n"},
		{numbered(api.MaxFields), block("\r\n", numbered(api.MaxFields)...) + "\r\n"},
	} {
		if got := string(of(t, c.fields...).Text()); got != c.want {
			t.Errorf("Text of %.200q: %.200q, not %.200q", c.fields, got, c.want)
		}
	}
	h, _, e := header.Parse([]byte("A:b\nC:\t d  e \t\r\nf:\n\nbody"))
	if got := string(h.Text()); got != "A: b\r\nC: d  e\r\nf: \r\n\r\n" || e != api.OK {
		t.Errorf("Text of a parsed one: %q, %d", got, int(e))
	}
}

// gets: Get and Values tell these values of a name, the first one and all.
func gets(t *testing.T, h header.Header, name string, want ...string) {
	t.Helper()
	same(t, "Values("+name+")", texts(h.Values(name)), want)
	got, ok := h.Get(name)
	if len(want) == 0 {
		if ok || got != nil {
			t.Errorf("Get(%.120q): %.120q, %t, where there is none", name, got, ok)
		}
		return
	}
	if !ok || string(got) != want[0] {
		t.Errorf("Get(%.120q): %.120q, %t, not %.120q", name, got, ok, want[0])
	}
}

func TestGetAndValues(t *testing.T) {
	h := of(t, "Host=a", "X-y=1", "x-Y=", "host=b", "HOST=a", "Z=z", "!=m", "k=kelvin", "\x60=grave", "^=hat", "~=tilde")
	for _, name := range []string{"Host", "host", "HOST", "hOST", "HosT"} {
		gets(t, h, name, "a", "b", "a")
	}
	for _, name := range []string{"X-y", "x-y", "X-Y", "x-Y"} {
		gets(t, h, name, "1", "")
	}
	gets(t, h, "z", "z")
	gets(t, h, "!", "m")
	gets(t, h, "K", "kelvin")
	gets(t, h, "\x60", "grave") // no letter, so no other one is the same: "@" isn't, nor "^" of "~"
	gets(t, h, "^", "hat")
	gets(t, h, "~", "tilde")
	for _, name := range []string{"", " ", "Hos", "Hosts", "Host ", " Host", "Host:", "Host=a", "a", "X_y", "@", "Zz", "\u212a", "\x00", "\xff", "Z\x00", strings.Repeat("Host", 5000)} {
		gets(t, h, name)
	}
	gets(t, of(t, "A="), "a", "") // an empty value is there
	gets(t, of(t), "A")
	parsed, _, _ := header.Parse([]byte("a: 1\nB: 2\nA: 3\n\nA: 4"))
	gets(t, parsed, "A", "1", "3")
	gets(t, parsed, "b", "2")
	many := of(t, numbered(api.MaxFields)...)
	for i := range api.MaxFields {
		gets(t, many, "n"+strconv.Itoa(i), "v"+strconv.Itoa(i))
	}
	gets(t, many, "n"+strconv.Itoa(api.MaxFields))
	often := of(t, slices.Repeat([]string{"A=b"}, api.MaxFields)...)
	gets(t, often, "a", slices.Repeat([]string{"b"}, api.MaxFields)...)
}

// Of each two bytes of names: they are the same just if they are one letter, great and small.
func TestSameNames(t *testing.T) {
	for i := range len(tokenBytes) {
		h := of(t, "x"+tokenBytes[i:i+1]+"=v")
		for j := range 256 {
			_, ok := h.Get("X" + string([]byte{byte(j)}))
			a, b := tokenBytes[i], byte(j)
			want := a == b || strings.IndexByte(letters, a) >= 0 && strings.IndexByte(letters, b) >= 0 && a|0x20 == b|0x20
			if ok != want {
				t.Errorf("x%c, got as X%q: %t", a, b, ok)
			}
		}
	}
}

// stops: an iterator that is stopped at any place tells no more, and all the next time.
func stops[T any](t *testing.T, what string, told iter.Seq[T], all int) {
	t.Helper()
	for n := 1; n <= all; n++ {
		seen := 0
		told(func(T) bool {
			seen++
			return seen < n
		})
		if seen != n {
			t.Errorf("%s stopped at %d tells %d", what, n, seen)
		}
		if again := len(slices.Collect(told)); again != all {
			t.Errorf("%s tells %d after it was stopped, not %d", what, again, all)
		}
	}
}

func TestIteratorsTwiceAndStopped(t *testing.T) {
	l := []string{"a=1", "B=2", "A=3", "c=", "a=1"}
	h := of(t, l...)
	all, values := h.All(), h.Values("A")
	for range 2 {
		same(t, "All", lines(all), l)
		same(t, "Values", texts(values), []string{"1", "3", "1"})
	}
	stops(t, "All", all, 5)
	stops(t, "Values", values, 3)
	for range all { // one pass within another one
		same(t, "All within All", lines(all), l)
		same(t, "Values within All", texts(values), []string{"1", "3", "1"})
	}
	for range values {
		same(t, "Values within Values", texts(values), []string{"1", "3", "1"})
	}
	for f := range all {
		if string(f.Name) == "B" {
			break
		}
		if string(f.Name) != "a" {
			t.Error("All goes on after a break")
		}
	}
}

func TestZeroValue(t *testing.T) {
	var h header.Header
	has(t, "the zero value", h, nil)
	gets(t, h, "A")
	gets(t, h, "")
	if string(h.Text()) != "\r\n" {
		t.Errorf("Text of the zero value: %q", h.Text())
	}
}

// The chapter's example.
func TestExample(t *testing.T) {
	parses(t, "A: b\r\n\r\nx", []string{"A=b"}, "x")
}
