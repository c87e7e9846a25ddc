package header_test

import (
	"bytes"
	"regexp"
	"slices"
	"strings"
	"testing"

	"cordon/api"
	"cordon/header"
)

// fieldLine: the chapter's words for a line, as the library's pattern.
var fieldLine = regexp.MustCompile("\\A([!#$%&'*+.^_`|~0-9A-Za-z-]+):[ \t]*([^ \t\r]|[^ \t\r][^\r]*[^ \t\r]|)[ \t]*\\z")

// shortTexts: all texts of up to most bytes of these.
func shortTexts(of string, most int) []string {
	l := []string{""}
	for from := 0; most > 0; most-- {
		to := len(l)
		for _, t := range l[from:to] {
			for i := range len(of) {
				l = append(l, t+of[i:i+1])
			}
		}
		from = to
	}
	return l
}

// told: what Parse has to answer, by the library's ways of cutting.
func told(text string) (l []string, body string, errno api.Errno) {
	pieces := strings.SplitAfter(text, "\n")
	for i, piece := range pieces {
		line := strings.TrimSuffix(strings.TrimSuffix(piece, "\n"), "\r")
		if line == "" {
			return l, strings.Join(pieces[i+1:], ""), api.OK
		}
		m := fieldLine.FindStringSubmatch(line)
		if m == nil {
			return nil, "", api.ErrForm
		}
		if len(l) == api.MaxFields {
			return nil, "", api.ErrLong
		}
		l = append(l, m[1]+"="+m[2])
	}
	return l, "", api.OK
}

// asTold: a text is parsed as the library's ways of cutting tell.
func asTold(t *testing.T, text string) {
	t.Helper()
	want, body, errno := told(text)
	if errno != api.OK {
		refuses(t, text, errno)
		return
	}
	parses(t, text, want, body)
}

// P11.1 once more, of all short texts.
func TestShortTexts(t *testing.T) {
	for _, text := range slices.Concat(shortTexts("A: \r\n", 7), shortTexts("a:\t\r\n(", 6)) {
		asTold(t, text)
	}
}

// And of texts that are put together of some lines and ends of lines, at the bound of fields and by it.
func TestShortLists(t *testing.T) {
	parts := []string{"A: b", "c:", "", "x", "D:e\r", "F : g", ":"}
	heads := []string{"", block("\n", numbered(api.MaxFields-1)...), block("\r\n", numbered(api.MaxFields)...)}
	for _, picks := range shortTexts("0123456", 3) {
		for _, end := range []string{"\n", "\r\n"} {
			var l []string
			for _, pick := range picks {
				l = append(l, parts[pick-'0'])
			}
			for _, head := range heads {
				asTold(t, head+strings.Join(l, end))
				asTold(t, head+strings.Join(l, end)+end)
			}
		}
	}
}

// bodies are any bytes that may stand behind a header's text.
func bodies() []string {
	return []string{"", "x", "\n", "\r\n", "\r", "\r\n\r\n", "A: b\r\n\r\n", ": wrong", "x\n\ny", "\x00\xff", "\r\n ", strings.Repeat("A: b\r\n", 100), strings.Repeat("\xff\n", 1<<16)}
}

// P11.3: a header's text, with any body behind it, is parsed to that header and that body, and that one's text is the same.
func parsesBack(t *testing.T, h header.Header) {
	t.Helper()
	l := lines(h.All())
	text := h.Text()
	for _, body := range bodies() {
		again, b, e := header.Parse(slices.Concat(text, []byte(body)))
		if e != api.OK || string(b) != body || !slices.Equal(lines(again.All()), l) || again.Len() != h.Len() || !bytes.Equal(again.Text(), text) {
			t.Errorf("%.200q and the body %.40q, parsed: %.200q, %.40q, %d", text, body, lines(again.All()), b, int(e))
		}
	}
	same, e := header.Of(slices.Collect(h.All())...)
	if e != api.OK || !slices.Equal(lines(same.All()), l) || !bytes.Equal(same.Text(), text) {
		t.Errorf("of the fields %.200q: %.200q, %d", l, lines(same.All()), int(e))
	}
}

func TestTextIsParsedBack(t *testing.T) {
	for _, l := range [][]string{
		nil, {"A=b"}, {"A="}, {"A=:"}, {"A=b: c", "a=d", "A=b: c"}, {"A=\x00\xff\v\f"}, {tokenBytes + "=\u00e9 \t \u2028"},
		numbered(api.MaxFields), slices.Repeat([]string{"A="}, api.MaxFields), {"A=" + strings.Repeat("b ", 1<<16) + "b"},
	} {
		parsesBack(t, of(t, l...))
	}
	parsesBack(t, header.Header{})
}

// And of all fields of short values, and all texts of short lines.
func TestShortTextsAreParsedBack(t *testing.T) {
	for _, value := range shortTexts("b: \t\r\n", 4) {
		for _, name := range []string{"A", "a", "", "A ", ":"} {
			h, e := header.Of(header.Field{Name: []byte(name), Value: []byte(value)})
			good := (name == "A" || name == "a") && !strings.ContainsAny(value, "\r\n") && strings.Trim(value, " \t") == value
			if good != (e == api.OK) || !good && e != api.ErrForm {
				t.Errorf("Of %q, %q: %d", name, value, int(e))
			}
			parsesBackQuickly(t, h)
		}
	}
	for _, text := range shortTexts("A: \r\n", 6) {
		h, _, _ := header.Parse([]byte(text))
		parsesBackQuickly(t, h)
	}
}

// parsesBackQuickly: see parsesBack, with one body.
func parsesBackQuickly(t *testing.T, h header.Header) {
	t.Helper()
	again, b, e := header.Parse(append(h.Text(), "\nx"...))
	if e != api.OK || string(b) != "\nx" || !slices.Equal(lines(again.All()), lines(h.All())) {
		t.Errorf("%q, parsed: %q, %q, %d", h.Text(), lines(again.All()), b, int(e))
	}
}

// R1: long texts, of many lines, of none, and of one.
func TestLongTexts(t *testing.T) {
	const long = 1 << 20
	body := strings.Repeat("x\n\n", long)
	parses(t, "A: b\r\n\r\n"+body, []string{"A=b"}, body)
	most := numbered(api.MaxFields)
	parses(t, block("\n", most...)+"\n"+body, most, body)
	value := strings.Repeat("b ", long) + "b"
	parses(t, "A: \t"+value+"\t \r\n", []string{"A=" + value}, "")
	parses(t, "A:"+strings.Repeat(" ", long), []string{"A="}, "")
	name := strings.Repeat("a", long)
	parses(t, name+":", []string{name + "="}, "")
	h := of(t, name+"=b")
	gets(t, h, strings.ToUpper(name), "b")
	gets(t, h, name[1:])
	parsesBackQuickly(t, h)
	refuses(t, strings.Repeat("a", long), api.ErrForm)
	refuses(t, strings.Repeat(":", long), api.ErrForm)
	refuses(t, strings.Repeat("\r", long), api.ErrForm)
	refuses(t, strings.Repeat("A:\n", long), api.ErrLong)
	refusesFields(t, api.ErrForm, make([]header.Field, long)...)
	refusesFields(t, api.ErrLong, slices.Repeat(fields("A=b"), long)...)
	parses(t, strings.Repeat("\n", long), nil, strings.Repeat("\n", long-1))
}

// spoil: overwrites all that slices reach.
func spoil(l ...[]byte) {
	for _, b := range l {
		b = b[:cap(b)]
		for i := range b {
			b[i] = '?'
		}
	}
}

// roomy: a text with spare room behind it that isn't empty, and all of its memory.
func roomy(text string) (handedIn, memory []byte) {
	memory = []byte("<" + text + ": more\r\n>spare, and more")
	return memory[1 : 1+len(text)], memory
}

// parts: all byte slices that the calls of a header answer, those of its iterators, too.
func parts(h header.Header) [][]byte {
	l := [][]byte{h.Text()}
	for f := range h.All() {
		l = append(l, f.Name, f.Value)
		first, _ := h.Get(string(f.Name))
		l = append(l, first)
		l = slices.AppendSeq(l, h.Values(string(f.Name)))
	}
	return l
}

// mixedTexts are texts that can be parsed, and some that can't.
func mixedTexts() []string {
	return []string{"", "\r\n", "A: b", "A: b\r\n\r\nx", "A: b\nC:  d e \na: f\n\nbody\n", "A:\nA:\n\n", "\n\n", "\nx: y", block("\n", numbered(api.MaxFields)...), block("\n", numbered(api.MaxFields+1)...), "x", "A: b\nx", "A : b", "A: b\rc"}
}

// R4: what is handed in to Parse isn't changed or kept, and no answer shares memory with it or with another one.
func TestMemoryOfParse(t *testing.T) {
	for _, text := range mixedTexts() {
		in, memory := roomy(text)
		before := bytes.Clone(memory)
		h, body, _ := header.Parse(in)
		answers := append(parts(h), body)
		want := make([]string, len(answers))
		for i, a := range answers {
			want[i] = string(a)
		}
		for i := range answers {
			spoil(answers[i])
			for j := i + 1; j < len(answers); j++ {
				if string(answers[j]) != want[j] {
					t.Errorf("Parse(%.80q): answers %d and %d share memory", text, i, j)
				}
			}
		}
		if !bytes.Equal(memory, before) {
			t.Errorf("Parse(%.80q): what is handed in has changed: %.80q", text, memory)
		}
		h2, body, _ := header.Parse(in)
		answers = append(parts(h), body) // of the first header, whose answers were overwritten, once more
		spoil(memory)
		for i, a := range append(answers, slices.Concat(parts(h2), [][]byte{body})...) {
			if string(a) != want[i%len(want)] {
				t.Errorf("Parse(%.80q): answer %d is %.80q, not %.80q", text, i, a, want[i%len(want)])
			}
		}
	}
}

// Fields as texts that share one memory, ahead of a spare one.
func fieldsInOne() (handedIn, room []header.Field, memory []byte) {
	memory = []byte("A:one:B:two:a:three, and spare")
	room = []header.Field{
		{Name: memory[0:1], Value: memory[2:5]}, {Name: memory[6:7], Value: memory[8:11]}, {Name: memory[12:13], Value: memory[14:19]},
		{Name: memory[21:24], Value: memory[25:30]}, {},
	}
	return room[:3], room, memory
}

// R4: what is handed in to Of isn't changed or kept, its spare room neither.
func TestMemoryOfOf(t *testing.T) {
	in, room, memory := fieldsInOne()
	before, beforeRoom := bytes.Clone(memory), lines(slices.Values(room))
	want := []string{"A=one", "B=two", "a=three"}
	h, e := header.Of(in...)
	if e != api.OK {
		t.Fatal(int(e))
	}
	spoil(parts(h)...)
	if !bytes.Equal(memory, before) || !slices.Equal(lines(slices.Values(room)), beforeRoom) {
		t.Errorf("what is handed in to Of has changed: %q, %q", memory, lines(slices.Values(room)))
	}
	has(t, "Of, its answers overwritten", h, want)
	all, values := h.All(), h.Values("a")
	spoil(memory)
	clear(room)
	has(t, "Of, what was handed in overwritten", h, want)
	same(t, "All, asked for before", lines(all), want)
	same(t, "Values, asked for before", texts(values), []string{"one", "three"})
	gets(t, h, "b", "two")
	in, _, memory = fieldsInOne()
	in[1].Value = []byte("two ")
	before = bytes.Clone(memory)
	refusesFields(t, api.ErrForm, in...)
	if !bytes.Equal(memory, before) || line(in[0]) != "A=one" || line(in[1]) != "B=two " || line(in[2]) != "a=three" {
		t.Errorf("what Of refuses has changed: %q, %q", memory, lines(slices.Values(in)))
	}
}

// R4: an iterator tells new memory each time, and what is done to it is nothing to the header, or to what is told next.
func TestMemoryOfIterators(t *testing.T) {
	want := []string{"A=one", "B=two", "a=three"}
	h := of(t, want...)
	all, values := h.All(), h.Values("A")
	for range 2 {
		var l []string
		for f := range all {
			l = append(l, line(f))
			spoil(f.Name, append(f.Name, "more"...), f.Value, append(f.Value, "more"...))
		}
		same(t, "All, while it is overwritten", l, want)
		l = nil
		for v := range values {
			l = append(l, string(v))
			spoil(v, append(v, "more"...))
		}
		same(t, "Values, while they are overwritten", l, []string{"one", "three"})
		first, _ := h.Get("a")
		spoil(first)
		spoil(h.Text())
	}
	has(t, "all told overwritten", h, want)
	if string(h.Text()) != "A: one\r\nB: two\r\na: three\r\n\r\n" {
		t.Errorf("all told overwritten: %q", h.Text())
	}
}

// R5: copies of a header are headers, and one that is made anew is nothing to them.
func TestCopies(t *testing.T) {
	h := of(t, "A=1", "B=2")
	k := h
	h, e := header.Of(fields("C=3")...)
	if e != api.OK {
		t.Fatal(int(e))
	}
	has(t, "a copy", k, []string{"A=1", "B=2"})
	has(t, "what was copied", h, []string{"C=3"})
	l := slices.Collect(k.All())
	wider, e := header.Of(append(l, field("D=4"))...)
	if e != api.OK {
		t.Fatal(int(e))
	}
	has(t, "a wider one", wider, []string{"A=1", "B=2", "D=4"})
	has(t, "a copy, behind that", k, []string{"A=1", "B=2"})
}
