package host_test

import (
	"bytes"
	"regexp"
	"slices"
	"strings"
	"testing"

	"cordon/api"
	"cordon/host"
)

// shortTexts: all texts of up to most bytes of these.
func shortTexts(of string, most int) []string {
	l := []string{""}
	for from := 0; most > 0; most-- {
		to := len(l)
		for _, t := range l[from:to] {
			for i := range len(of) {
				l = append(l, t+of[i:i+1])
			}
		}
		from = to
	}
	return l
}

// The chapter's words, as the library's patterns.
var (
	named     = regexp.MustCompile(`\A([A-Za-z0-9]([A-Za-z0-9-]*[A-Za-z0-9])?\.)*[A-Za-z]([A-Za-z0-9-]*[A-Za-z0-9])?\z`)
	addressed = regexp.MustCompile(`\A((25[0-5]|2[0-4][0-9]|1[0-9][0-9]|[1-9]?[0-9])(\.|\z)){4}\z`)
)

// dotted: an address, that ends with no dot.
func dotted(text string) bool {
	return addressed.MatchString(text) && !strings.HasSuffix(text, ".")
}

// isHost: is a text of no more than eight parts, none of more than 63 bytes, a host?
func isHost(text string) bool {
	return named.MatchString(text) || dotted(text)
}

// isWithin: the same question as Within's, asked of the texts alone.
func isWithin(h, domain string) bool {
	isCanon := isHost(h) && h == strings.ToLower(h)
	return isCanon && (h == domain || !dotted(h) && strings.HasSuffix(h, "."+domain))
}

// P4.1 once more, of all short texts.

func TestShortTexts(t *testing.T) {
	for _, text := range append(shortTexts("aZ1-. ", 6), shortTexts("025.", 8)...) {
		got, e := host.Parse([]byte(text))
		if isHost(text) && (string(got) != strings.ToLower(text) || e != api.OK) || !isHost(text) && (got != nil || e != api.ErrForm) {
			t.Errorf("Parse(%q): %q, %d", text, got, int(e))
		}
		if got := host.Address([]byte(text)); got != dotted(text) {
			t.Errorf("Address(%q): %t", text, got)
		}
	}
}

// P4.2 once more: Up tells just the ends of a canon that Within takes, the longest one first.

func TestUpAndWithinOfShortTexts(t *testing.T) {
	for _, text := range append(shortTexts("aZ1-.", 6), append(addresses(), "a.1.2.3.4", "1.2.3.4.a")...) {
		var ends []string
		for i := range len(text) + 1 {
			if isWithin(text, text[i:]) {
				ends = append(ends, text[i:])
			}
			within(t, text, text[i:], isWithin(text, text[i:]))
		}
		up(t, text, ends...)
	}
}

// P4.3

// hosts: canons, one within another or not.
func hosts() []string {
	var l []string
	for _, text := range append(shortTexts("ab1.", 5), addresses()...) {
		if isHost(text) {
			l = append(l, text)
		}
	}
	return append(l, "a.b-c.org", "b-c.org", "org", "c.org", "a.a.b-c.org", "a.b.c.d.e.f.g.h", "d.e.f.g.h", "h", "1.2.3.d", parts(63, 63, 63, 61), parts(63, 63, 63, 61)[64:])
}

func TestWithinOfAllPairs(t *testing.T) {
	l := append(hosts(), "", ".", "A", "a.A", ".a", "a.", "2.3.4", "4")
	for _, h := range l {
		for _, domain := range l {
			within(t, h, domain, isWithin(h, domain))
		}
	}
}

func TestEachIsWithinItself(t *testing.T) {
	for _, text := range append(hosts(), "A.b-C.Org", "LOCALHOST", strings.ToUpper(parts(63, 63, 63, 61))) {
		h, e := host.Parse([]byte(text))
		if e != api.OK {
			t.Errorf("Parse(%q): %d", text, int(e))
		}
		within(t, string(h), string(h), true)
		if again, e := host.Parse(h); !bytes.Equal(again, h) || e != api.OK {
			t.Errorf("the canon of canon %q: %q, %d", h, again, int(e))
		}
		for domain := range host.Up(h) {
			parses(t, string(domain), string(domain))
		}
	}
}

func TestWithinWhatIsWithin(t *testing.T) {
	for _, h := range hosts() {
		for _, domain := range texts(host.Up([]byte(h))) {
			for _, above := range texts(host.Up([]byte(domain))) {
				within(t, h, above, true)
			}
		}
	}
}

// roomy: a text with spare room behind it that isn't empty, and all of its memory.
func roomy(text string) (handedIn, memory []byte) {
	memory = []byte("<" + text + ".a.Org>spare, and more")
	return memory[1 : 1+len(text)], memory
}

// spoil: overwrites all that a slice reaches.
func spoil(l ...[]byte) {
	for _, b := range l {
		b = b[:cap(b)]
		for i := range b {
			b[i] = '?'
		}
	}
}

// calls: each call of the package on a text, with all byte slices that it answers.
func calls() map[string]func(t []byte) [][]byte {
	return map[string]func(t []byte) [][]byte{
		"Parse": func(t []byte) [][]byte {
			h, _ := host.Parse(t)
			return [][]byte{h}
		},
		"Up": func(t []byte) [][]byte { return slices.Collect(host.Up(t)) },
		"Address": func(t []byte) [][]byte {
			host.Address(t)
			return nil
		},
		"Within": func(t []byte) [][]byte {
			host.Within(t, []byte("org"))
			host.Within([]byte("a.b-c.org"), t)
			host.Within(t, t)
			return nil
		},
	}
}

func mixedTexts() []string {
	return []string{"", "org", "A.b-c.Org", "a.b-c.org", "1.2.3.4", "1.2.3", "a..b", "-", "a.b.c.d.e.f.g.h", parts(63, 63, 63, 61), parts(63, 63, 63, 62), "\xff.\x00"}
}

func TestNothingHandedInIsChanged(t *testing.T) {
	for name, f := range calls() {
		for _, text := range mixedTexts() {
			in, memory := roomy(text)
			before := bytes.Clone(memory)
			f(in)
			if !bytes.Equal(memory, before) {
				t.Errorf("%s of %q changes what is handed in: %q", name, text, memory)
			}
		}
	}
}

func TestAnswersAreNewMemory(t *testing.T) {
	for name, f := range calls() {
		for _, text := range mixedTexts() {
			in, memory := roomy(text)
			before := bytes.Clone(memory)
			first, second := f(in), f(in)
			var want []string
			for _, a := range second {
				want = append(want, string(a))
			}
			for i := range first {
				spoil(first[i])
				for j := i + 1; j < len(first); j++ {
					if string(first[j]) != want[j] {
						t.Errorf("%s of %q: answers %d and %d share memory", name, text, i, j)
					}
				}
			}
			if !bytes.Equal(memory, before) {
				t.Errorf("%s of %q: an answer shares memory with what is handed in", name, text)
			}
			spoil(memory)
			for i, a := range second {
				if string(a) != want[i] {
					t.Errorf("%s of %q: answer %d shares memory with another one's or with what is handed in", name, text, i)
				}
			}
		}
	}
}

// What is handed in isn't kept: what becomes of it later is nothing to an iterator.
func TestUpKeepsNothing(t *testing.T) {
	in := []byte("a.b-c.org")
	above := host.Up(in)
	want := []string{"a.b-c.org", "b-c.org", "org"}
	spoil(in)
	if got := texts(above); !slices.Equal(got, want) {
		t.Errorf("Up of a text that changed since: %q", got)
	}
	spoil(slices.Collect(above)...)
	if got := texts(above); !slices.Equal(got, want) {
		t.Errorf("Up after its pieces were changed: %q", got)
	}
	var told []string
	for p := range above {
		told = append(told, string(p))
		spoil(p, append(p, ".more"...))
	}
	if !slices.Equal(told, want) {
		t.Errorf("Up while its pieces are changed: %q", told)
	}
}

// A text in which nothing is told at first goes on telling nothing, whatever it becomes.
func TestUpOfWhatBecomesAHost(t *testing.T) {
	in := []byte("a..org")
	above := host.Up(in)
	in[1] = 'b'
	if got := texts(above); len(got) != 0 {
		t.Errorf("Up of what was no host: %q", got)
	}
}

// Bytes behind the end of a text are none of it: what ends with a dot ends there.
func TestSpareRoomIsNotRead(t *testing.T) {
	for _, text := range []string{"a.", "1.2.3", "1.2.3.", "a-", ""} {
		in, _ := roomy(text)
		if got, e := host.Parse(in); got != nil || e != api.ErrForm {
			t.Errorf("Parse(%q): %q, %d", text, got, int(e))
		}
	}
}
