package percent_test

import (
	"bytes"
	"testing"

	"cordon/api"
	"cordon/percent"
)

// shortTexts: all texts of up to most bytes of these.
func shortTexts(of string, most int) []string {
	l := []string{""}
	for from := 0; most > 0; most-- {
		to := len(l)
		for _, t := range l[from:to] {
			for i := range len(of) {
				l = append(l, t+of[i:i+1])
			}
		}
		from = to
	}
	return l
}

// allPlaces: the places, and one that there is none of.
func allPlaces() []percent.Place {
	return []percent.Place{percent.Part, percent.Path, percent.Query, 3}
}

// P3.2

func TestDecodeUndoesEncode(t *testing.T) {
	for _, text := range append(shortTexts("%2fF/?~ \xff", 4), everyByte()) {
		for _, p := range allPlaces() {
			encoded := percent.Encode([]byte(text), p)
			if got, e := percent.Decode(encoded); string(got) != text || e != api.OK {
				t.Errorf("Encode(%q, %d), decoded: %q, %d", text, p, got, int(e))
			}
		}
	}
}

func TestCanonOfCanon(t *testing.T) {
	for _, text := range shortTexts("%27efF/?\xff", 5) {
		decoded, wrong := percent.Decode([]byte(text))
		for _, p := range allPlaces() {
			once, e := percent.Canon([]byte(text), p)
			if e != wrong {
				t.Errorf("Canon(%q, %d): %d, but Decode: %d", text, p, int(e), int(wrong))
			}
			if e != api.OK {
				continue
			}
			if twice, e := percent.Canon(once, p); !bytes.Equal(twice, once) || e != api.OK {
				t.Errorf("Canon of Canon(%q, %d): %q, %d, not %q", text, p, twice, int(e), once)
			}
			if got, e := percent.Decode(once); !bytes.Equal(got, decoded) || e != api.OK {
				t.Errorf("Canon(%q, %d), decoded: %q, %d, not %q", text, p, got, int(e), decoded)
			}
		}
	}
}

// What is encoded is in canon already.
func TestCanonOfEncode(t *testing.T) {
	for _, text := range append(shortTexts("%27e/?\xff", 4), everyByte()) {
		for _, p := range allPlaces() {
			encoded := percent.Encode([]byte(text), p)
			if got, e := percent.Canon(encoded, p); !bytes.Equal(got, encoded) || e != api.OK {
				t.Errorf("Canon of Encode(%q, %d): %q, %d", text, p, got, int(e))
			}
		}
	}
}

func everyByte() string {
	var l []byte
	for i := range 256 {
		l = append(l, byte(i))
	}
	return string(l)
}

// roomy: a text with spare room behind it that isn't empty, and all of its memory.
func roomy(text string) (handedIn, memory []byte) {
	memory = []byte("<" + text + "41>spare, and more")
	return memory[1 : 1+len(text)], memory
}

// spoil: overwrites all that a slice reaches.
func spoil(b []byte) {
	b = b[:cap(b)]
	for i := range b {
		b[i] = '?'
	}
}

// calls: each call of the package on a text.
func calls() map[string]func(t []byte) []byte {
	l := map[string]func(t []byte) []byte{
		"Decode": func(t []byte) []byte {
			decoded, _ := percent.Decode(t)
			return decoded
		},
	}
	for p, name := range []string{"Part", "Path", "Query", "unknown"} {
		place := percent.Place(p)
		l["Encode, "+name] = func(t []byte) []byte { return percent.Encode(t, place) }
		l["Canon, "+name] = func(t []byte) []byte {
			canon, _ := percent.Canon(t, place)
			return canon
		}
	}
	return l
}

func mixedTexts() []string {
	return []string{"", "a", "abc-._~", "a b/?", "%7e%2f ", "%25", "%", "%4", "a%", "%zz", "\x00\xff", "/:@!$&'()*+,;=?", "%41%42%43"}
}

func TestNothingHandedInIsChanged(t *testing.T) {
	for name, f := range calls() {
		for _, text := range mixedTexts() {
			in, memory := roomy(text)
			before := bytes.Clone(memory)
			f(in)
			if !bytes.Equal(memory, before) {
				t.Errorf("%s of %q changes what is handed in: %q", name, text, memory)
			}
		}
	}
}

func TestAnswersAreNewMemory(t *testing.T) {
	for name, f := range calls() {
		for _, text := range mixedTexts() {
			in, memory := roomy(text)
			before := bytes.Clone(memory)
			first, second := f(in), f(in)
			want := string(second)
			spoil(first)
			if !bytes.Equal(memory, before) {
				t.Errorf("%s of %q: the answer shares memory with what is handed in", name, text)
			}
			if string(second) != want {
				t.Errorf("%s of %q: two answers share memory", name, text)
			}
			spoil(memory)
			if string(second) != want {
				t.Errorf("%s of %q: the answer is kept in what is handed in", name, text)
			}
		}
	}
}

// Bytes behind the end of a text are none of it: a sign at the end has no digits there.
func TestSpareRoomIsNotRead(t *testing.T) {
	for _, text := range []string{"%", "a%", "%4", "%41%", "%41%4"} {
		in, _ := roomy(text)
		if got, e := percent.Decode(in); got != nil || e != api.ErrForm {
			t.Errorf("Decode(%q): %q, %d", text, got, int(e))
		}
		if got, e := percent.Canon(in, percent.Path); got != nil || e != api.ErrForm {
			t.Errorf("Canon(%q): %q, %d", text, got, int(e))
		}
	}
}
