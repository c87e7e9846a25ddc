package cut_test

import (
	"bytes"
	"slices"
	"strings"
	"testing"

	"cordon/cut"
)

// shortTexts: all texts of up to most bytes of these.
func shortTexts(of string, most int) []string {
	l := []string{""}
	for from := 0; most > 0; most-- {
		to := len(l)
		for _, t := range l[from:to] {
			for i := range len(of) {
				l = append(l, t+of[i:i+1])
			}
		}
		from = to
	}
	return l
}

// P1.1 and P1.2 once more, of all short texts, by the library's ways of cutting.
func TestShortTexts(t *testing.T) {
	for _, text := range shortTexts("a \t\n\r,", 5) {
		b := []byte(text)
		pieces := strings.Split(text, "\n")
		if last := len(pieces) - 1; pieces[last] == "" {
			pieces = pieces[:last]
		}
		for i := range pieces {
			pieces[i] = strings.TrimSuffix(pieces[i], "\r")
		}
		same(t, "Lines of "+text, texts(cut.Lines(b)), pieces)
		same(t, "Split of "+text, counted(t, cut.Split(b, ',')), strings.Split(text, ","))
		blank := func(r rune) bool { return r == ' ' || r == '\t' }
		same(t, "Fields of "+text, texts(cut.Fields(b)), strings.FieldsFunc(text, blank))
		if got := string(cut.Trim(b)); got != strings.Trim(text, " \t") {
			t.Errorf("Trim(%q): %q", text, got)
		}
		before, after, found := strings.Cut(text, ",")
		gotBefore, gotAfter, gotFound := cut.At(b, ',')
		if string(gotBefore) != before || string(gotAfter) != after || gotFound != found {
			t.Errorf("At(%q): %q, %q, %t", text, gotBefore, gotAfter, gotFound)
		}
	}
}

// P1.4

func TestPutTogetherAgain(t *testing.T) {
	for _, text := range shortTexts("a,\n \t\r", 5) {
		b := []byte(text)
		for _, by := range []string{",", "\n", "\r", "a", "x", "\x00"} {
			pieces := counted(t, cut.Split(b, by[0]))
			if got := strings.Join(pieces, by); got != text {
				t.Errorf("Split(%q, %q) put together: %q", text, by, got)
			}
			if len(pieces) != strings.Count(text, by)+1 {
				t.Errorf("Split(%q, %q): %d pieces", text, by, len(pieces))
			}
			before, after, found := cut.At(b, by[0])
			whole := string(before) + string(after)
			if found {
				whole = string(before) + by + string(after)
			}
			if whole != text {
				t.Errorf("At(%q, %q) put together: %q", text, by, whole)
			}
		}
		if strings.Contains(text, "\r") {
			continue
		}
		whole := strings.Join(texts(cut.Lines(b)), "\n")
		if strings.HasSuffix(text, "\n") {
			whole += "\n" // behind the last line fed, the piece that isn't told
		}
		if whole != text {
			t.Errorf("Lines(%q) put together: %q", text, whole)
		}
	}
}

// fieldsAgain: fields with the blanks that stand between them in a text put there again.
func fieldsAgain(text string, fields []string) string {
	isBlank := func(b byte) bool { return b == ' ' || b == '\t' }
	var whole strings.Builder
	at := 0
	for _, f := range append(slices.Clone(fields), "") {
		for at < len(text) && isBlank(text[at]) {
			whole.WriteByte(text[at])
			at++
		}
		whole.WriteString(f)
		at += len(f)
	}
	return whole.String()
}

func TestFieldsPutTogetherAgain(t *testing.T) {
	for _, text := range shortTexts("ab \t\n", 6) {
		if got := fieldsAgain(text, texts(cut.Fields([]byte(text)))); got != text {
			t.Errorf("Fields(%q) put together: %q", text, got)
		}
	}
}

// roomy: a text with spare room behind it that isn't empty, and all of its memory.
func roomy(text string) (handedIn, memory []byte) {
	memory = []byte("<" + text + ">spare, and \n more")
	return memory[1 : 1+len(text)], memory
}

// spoil: overwrites all that a slice reaches.
func spoil(l ...[]byte) {
	for _, b := range l {
		b = b[:cap(b)]
		for i := range b {
			b[i] = '?'
		}
	}
}

// calls: each call of the package on a text, with all byte slices that it answers.
func calls() map[string]func(t []byte) [][]byte {
	l := map[string]func(t []byte) [][]byte{
		"Trim":  func(t []byte) [][]byte { return [][]byte{cut.Trim(t)} },
		"Lower": func(t []byte) [][]byte { return [][]byte{cut.Lower(t)} },
		"At": func(t []byte) [][]byte {
			before, after, _ := cut.At(t, ';')
			return [][]byte{before, after}
		},
		"At, not found": func(t []byte) [][]byte {
			before, after, _ := cut.At(t, '!')
			return [][]byte{before, after}
		},
		"Same": func(t []byte) [][]byte {
			cut.Same(t, []byte("AB cd;"))
			cut.Same([]byte("AB cd;"), t)
			cut.Same(t, t)
			return nil
		},
		"Token": func(t []byte) [][]byte {
			cut.Token(t)
			return nil
		},
		"Number": func(t []byte) [][]byte {
			cut.Number(t, 99)
			return nil
		},
	}
	for name, f := range cutters() {
		l[name] = func(t []byte) [][]byte { return slices.Collect(f(t)) }
	}
	return l
}

func mixedTexts() []string {
	return []string{"", "a", "42", " Ab\t", "AB\r\ncd\n\n", "ab;cd ef;\tGH", "a b;c\nd\r", ";\n \t;\n", "\xff;\x00"}
}

func TestNothingHandedInIsChanged(t *testing.T) {
	for name, f := range calls() {
		for _, text := range mixedTexts() {
			in, memory := roomy(text)
			before := bytes.Clone(memory)
			f(in)
			if !bytes.Equal(memory, before) {
				t.Errorf("%s of %q changes what is handed in: %q", name, text, memory)
			}
		}
	}
}

func TestAnswersAreNewMemory(t *testing.T) {
	for name, f := range calls() {
		for _, text := range mixedTexts() {
			in, memory := roomy(text)
			before := bytes.Clone(memory)
			want := make([]string, 0)
			answers := f(in)
			for _, a := range answers {
				want = append(want, string(a))
			}
			for i := range answers {
				spoil(answers[i])
				for j := i + 1; j < len(answers); j++ {
					if string(answers[j]) != want[j] {
						t.Errorf("%s of %q: answers %d and %d share memory", name, text, i, j)
					}
				}
			}
			if !bytes.Equal(memory, before) {
				t.Errorf("%s of %q: an answer shares memory with what is handed in", name, text)
			}
			answers = f(in)
			spoil(memory)
			for i, a := range answers {
				if string(a) != want[i] {
					t.Errorf("%s of %q: what is handed in shares memory with answer %d", name, text, i)
				}
			}
		}
	}
}

// What is handed in isn't kept: what becomes of it later is nothing to an iterator.
func TestIteratorsKeepNothing(t *testing.T) {
	for name, f := range cutters() {
		in := fourPieces(name)
		pieces := f(in)
		want := []string{"ab", "cd", "ef", "gh"}
		spoil(in)
		same(t, name+" of a text that changed since", texts(pieces), want)
		spoil(slices.Collect(pieces)...)
		same(t, name+" after its pieces were changed", texts(pieces), want)
		var told []string
		for p := range pieces {
			told = append(told, string(p))
			spoil(p, append(p, "more"...))
		}
		same(t, name+" while its pieces are changed", told, want)
	}
}
