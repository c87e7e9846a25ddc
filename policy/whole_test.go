package policy_test

import (
	"bytes"
	"regexp"
	"slices"
	"strings"
	"testing"

	"cordon/api"
	"cordon/formula"
	"cordon/header"
	"cordon/label"
	"cordon/origin"
	"cordon/policy"
	"cordon/priv"
)

// shortTexts: all texts of up to most bytes of these.
func shortTexts(of string, most int) []string {
	l := []string{""}
	for from := 0; most > 0; most-- {
		to := len(l)
		for _, t := range l[from:to] {
			for i := range len(of) {
				l = append(l, t+of[i:i+1])
			}
		}
		from = to
	}
	return l
}

// listing and sourcing: the chapter's words as the library's patterns, for hosts and origins of few parts of few letters.
var (
	listing  = regexp.MustCompile(`[^ \t]+`)
	sourcing = regexp.MustCompile(`\A(self|\*|\*\.([0-9a-z]+\.)*[a-z][0-9a-z]*|https?://([0-9a-z]+\.)*[a-z][0-9a-z]*(:[1-9][0-9]{0,3})?|closed:[1-9][0-9]{0,9})\z`)
)

// told: what ParseSources has to answer, by the library's patterns.
func told(text string) (string, api.Errno) {
	pieces := listing.FindAllString(text, -1)
	if len(pieces) == 1 && pieces[0] == "none" {
		return "none", api.OK
	}
	for i, piece := range pieces {
		scheme, _, isOrigin := strings.Cut(piece, "://")
		if isOrigin || strings.HasPrefix(piece, "*.") {
			piece = strings.ToLower(piece)
			scheme = strings.ToLower(scheme)
		}
		if !sourcing.MatchString(piece) {
			return "none", api.ErrForm
		}
		if i == api.MaxSources {
			return "none", api.ErrLong
		}
		if isOrigin {
			piece = strings.TrimSuffix(piece, map[string]string{"http": ":80", "https": ":443"}[scheme])
		}
		pieces[i] = piece
	}
	if len(pieces) == 0 {
		return "none", api.ErrForm
	}
	return strings.Join(pieces, " "), api.OK
}

// asTold: a text is parsed as the library's patterns tell.
func asTold(t *testing.T, text string) {
	t.Helper()
	want, errno := told(text)
	if errno != api.OK {
		refuses(t, text, errno)
		return
	}
	lists(t, text, want)
}

// P12.1 and P12.3 once more, of all short texts.
func TestShortTexts(t *testing.T) {
	for _, text := range slices.Concat(shortTexts("*.aZ \t", 6), shortTexts("*.1a ", 7)) {
		asTold(t, text)
	}
	for _, text := range shortTexts("aB.:/8", 4) {
		asTold(t, "http://"+text)
		asTold(t, "HTTPS://a"+text)
		asTold(t, "self\thttp://"+text+" *")
	}
	for _, text := range shortTexts("0179 x", 4) {
		asTold(t, "closed:"+text)
		asTold(t, "http://a:"+text)
		asTold(t, "*."+text)
		asTold(t, "*.1.2."+text)
	}
	for _, text := range shortTexts("selfno", 5) {
		asTold(t, text)
		asTold(t, " "+text)
	}
}

// And of lists that are put together of some pieces and blanks, at the bound of sources and by it.
func TestShortLists(t *testing.T) {
	parts := []string{"none", "self", "*", "http://B:80", "*.C", "closed:7", "x", "*."}
	heads := []string{"", numbered(api.MaxSources-2) + " ", numbered(api.MaxSources-1) + "\t", numbered(api.MaxSources) + " "}
	for _, picks := range shortTexts("01234567", 3) {
		for _, between := range []string{" ", "\t \t"} {
			var l []string
			for _, pick := range picks {
				l = append(l, parts[pick-'0'])
			}
			for _, head := range heads {
				asTold(t, head+strings.Join(l, between))
				asTold(t, head+between+strings.Join(l, between)+between)
			}
		}
	}
}

// Of each byte: may it stand within a source, at its ends, or alone?
func TestBytes(t *testing.T) {
	for i := range 256 {
		b := string([]byte{byte(i)})
		if b == " " || b == "\t" {
			lists(t, "self"+b+"*", "self *")
			continue
		}
		refuses(t, "self"+b, api.ErrForm)
		refuses(t, b+"self", api.ErrForm)
		refuses(t, "self"+b+"*", api.ErrForm)
		if b != "*" {
			refuses(t, b, api.ErrForm)
		}
	}
}

// under: is a host a longer name of that domain?
func under(host, domain string) bool {
	return strings.HasSuffix(host, "."+domain) && strings.Trim(host, "0123456789.") != ""
}

// P12.1: what lists of two sources allow, held against the words for each of both.
func TestAllowsOfAllPairs(t *testing.T) {
	one := map[string]func(self, o origin.Origin) bool{
		"self": func(self, o origin.Origin) bool { return self == o },
		"*":    func(self, o origin.Origin) bool { return o.Closed == 0 },
	}
	for _, text := range asked()[1:] {
		one[text] = func(self, o origin.Origin) bool { return o.Text() == text }
	}
	for _, domain := range []string{"a.org", "org", "x.a.org", "a", "b", "4.a.org", "a-org"} {
		one["*."+domain] = func(self, o origin.Origin) bool { return under(o.Host, domain) }
	}
	var origins []origin.Origin
	for _, text := range asked() {
		origins = append(origins, at(t, text))
	}
	for a, allowsA := range one {
		for b, allowsB := range one {
			s := listed(t, a+" "+b)
			for _, self := range origins {
				for _, o := range origins {
					if want := allowsA(self, o) || allowsB(self, o); s.Allows(self, o) != want {
						t.Errorf("%q allows %q for %q: %t", s.Text(), o.Text(), self.Text(), !want)
					}
				}
			}
		}
	}
}

// someLabels and somePrivileges are values of fields, "" where the field is missing.
func someLabels() []string {
	return []string{"", "always", "never", "http://a", "http://b", "http://a & http://b", "http://a | http://b", "http://a ; http://b", "always ; http://a", "never ; never", "x", "http://a ; x"}
}

func somePrivileges() []string {
	return []string{"", "always", "never", "http://a", "http://b", "http://a | http://b", "http://a & http://b", "closed:7", "http://a | closed:7", "x"}
}

// P12.2 and P12.3, of all policies of some labels and privileges: what stands is allowed, what is refused is forbidden.
func TestPoliciesOfAllLabelsAndPrivileges(t *testing.T) {
	for _, o := range []string{"http://a", "http://b", "https://a", "closed:7", ""} {
		own := policy.Plain(at(t, o)).Privilege
		for _, context := range someLabels() {
			for _, clearance := range someLabels() {
				for _, privilege := range somePrivileges() {
					sound(t, o, own, context, clearance, privilege)
				}
			}
		}
	}
}

// sound: the policy of three values, for an origin, is as the layers below tell.
func sound(t *testing.T, o string, own formula.Formula, context, clearance, privilege string) {
	t.Helper()
	lines := []string{"X: y"}
	errno := api.OK
	wanted := policy.Plain(at(t, o))
	labels := func(name, value string, place *label.Label) {
		if value == "" {
			return
		}
		lines = append(lines, name+": "+value)
		l, e := label.Parse([]byte(value))
		if errno == api.OK {
			errno = e
		}
		*place = l
	}
	labels("Context-Label", context, &wanted.Context)
	labels("Context-Clearance", clearance, &wanted.Clearance)
	if privilege != "" {
		lines = append(lines, "Context-Privilege: "+privilege)
		f, e := formula.Parse([]byte(privilege))
		if errno == api.OK {
			errno = e
		}
		wanted.Privilege = f
	}
	if errno == api.OK && (!own.Implies(wanted.Privilege) || !wanted.Context.Flows(wanted.Clearance)) {
		errno = api.ErrPolicy
	}
	if errno != api.OK {
		denies(t, o, errno, lines...)
		return
	}
	says(t, o, said(wanted), lines...)
	coveredByOwn(t, o, own, block(t, lines...))
}

// coveredByOwn: what a policy's privilege covers its origin's own covers.
func coveredByOwn(t *testing.T, o string, own formula.Formula, h header.Header) {
	t.Helper()
	p, _ := policy.Of(h, at(t, o))
	for _, text := range somePrivileges() {
		q, e := formula.Parse([]byte(text))
		if e == api.OK && priv.Covers(p.Privilege, q) && !priv.Covers(own, q) {
			t.Errorf("for %q the privilege %q covers %q", o, p.Privilege.Text(), text)
		}
	}
	if !p.Context.Flows(p.Clearance) {
		t.Errorf("for %q the context %q is above the clearance %q", o, p.Context.Text(), p.Clearance.Text())
	}
}

// R1: long texts, of many pieces, of none, and of one.
func TestLongTexts(t *testing.T) {
	const long = 1 << 20
	for text, errno := range map[string]api.Errno{
		strings.Repeat(" ", long): api.ErrForm, strings.Repeat("x", long): api.ErrForm, strings.Repeat("*", long): api.ErrForm, strings.Repeat("x ", long): api.ErrForm, strings.Repeat("none ", long): api.ErrForm,
		"*." + strings.Repeat("a.", long) + "a": api.ErrForm, "http://" + strings.Repeat("a", long): api.ErrForm, "closed:" + strings.Repeat("9", long): api.ErrForm, strings.Repeat("self ", long): api.ErrLong, strings.Repeat("* ", api.MaxSources) + strings.Repeat("y", long): api.ErrForm,
	} {
		refuses(t, text, errno)
	}
	lists(t, strings.Repeat(" \t", long)+"none"+strings.Repeat("\t ", long), "none")
	lists(t, "self"+strings.Repeat(" ", long)+"*"+strings.Repeat("\t", long), "self *")
	host := strings.Repeat("a", 62) + "." + strings.Repeat(strings.Repeat("b", 62)+".", 2) + strings.Repeat("c", 62)
	list := strings.TrimSuffix(strings.Repeat("*."+host+" http://x."+host+":65535 ", api.MaxSources/2), " ")
	lists(t, strings.ToUpper(list), list) // more than api.MaxText bytes: no bound is told for a list's text
	says(t, "http://a", "always ; always, always ; always, never ; always, http://a, "+list+", *", "Connect-Sources: "+list)
}

// spoil: overwrites all that a slice reaches.
func spoil(b []byte) {
	b = b[:cap(b)]
	for i := range b {
		b[i] = '?'
	}
}

// roomy: a text with spare room behind it that isn't empty, and all of its memory.
func roomy(text string) (handedIn, memory []byte) {
	memory = []byte("* " + text + " self and more")
	return memory[2 : 2+len(text)], memory
}

// R4: what is handed in to ParseSources isn't changed or kept.
func TestMemoryOfParseSources(t *testing.T) {
	for _, text := range []string{"", " ", "none", " none ", "self", "*", "http://a", "HTTP://A:80 *.A.Org  self", "*.a.org", "closed:7", "x", "self none", "self x", numbered(api.MaxSources), numbered(api.MaxSources + 1)} {
		in, memory := roomy(text)
		before := bytes.Clone(memory)
		s, e := policy.ParseSources(in)
		want, errno := told(text)
		if e != errno || s.Text() != want {
			t.Errorf("ParseSources(%.80q): %.80q, %d", text, s.Text(), int(e))
		}
		if !bytes.Equal(memory, before) {
			t.Errorf("ParseSources(%.80q): what is handed in has changed: %.80q", text, memory)
		}
		allowed := verdicts(t, s)
		spoil(memory)
		if s.Text() != want || !slices.Equal(verdicts(t, s), allowed) {
			t.Errorf("ParseSources(%.80q): what is handed in is kept: %.80q", text, s.Text())
		}
	}
}

// verdicts: what a list allows, asked of some origins, for each of them.
func verdicts(t *testing.T, s policy.Sources) []bool {
	t.Helper()
	var l []bool
	for _, self := range asked() {
		for _, o := range asked() {
			l = append(l, s.Allows(at(t, self), at(t, o)))
		}
	}
	return l
}

// R4: the header that is handed in to Of isn't changed, and what is told of it stays what it is.
func TestMemoryOfOf(t *testing.T) {
	given, want := values()
	memory := []byte("Z: y\r\n")
	for i, name := range names() {
		memory = append(memory, name+": "+given[i]+"\r\n"...)
	}
	h, _, e := header.Parse(memory)
	if e != api.OK {
		t.Fatal(int(e))
	}
	before := string(h.Text())
	p, e := policy.Of(h, at(t, "http://a"))
	if e != api.OK || said(p) != strings.Join(want, ", ") {
		t.Fatalf("Of: %q, %d", said(p), int(e))
	}
	spoil(memory)
	for f := range h.All() {
		spoil(f.Name)
		spoil(f.Value)
	}
	spoil(h.Text())
	if said(p) != strings.Join(want, ", ") || string(h.Text()) != before {
		t.Errorf("what was handed in is overwritten: %q, and the header %q", said(p), h.Text())
	}
	again, e := policy.Of(h, at(t, "http://a"))
	if e != api.OK || said(again) != said(p) {
		t.Errorf("Of once more: %q, %d", said(again), int(e))
	}
	if _, e := policy.Of(h, at(t, "http://b")); e != api.ErrPolicy || string(h.Text()) != before {
		t.Errorf("Of for another origin: %d, and the header %q", int(e), h.Text())
	}
}

// R4, R5: copies of lists and of policies are what they were, whatever is made of the others.
func TestCopies(t *testing.T) {
	s := listed(t, "self *.a.org")
	k := s
	s = listed(t, "http://b")
	if k.Text() != "self *.a.org" || s.Text() != "http://b" || !k.Allows(at(t, "http://b"), at(t, "http://x.a.org")) || s.Allows(at(t, "http://c"), at(t, "http://c")) {
		t.Errorf("a copy of a list: %q, and the list: %q", k.Text(), s.Text())
	}
	p := policy.Plain(at(t, "http://a"))
	q := p
	p.Connect, p.Frame, p.Privilege, p.Data = listed(t, "none"), s, formula.Never(), label.Pure()
	if said(q) != said(policy.Plain(at(t, "http://a"))) {
		t.Errorf("a copy of a policy: %q", said(q))
	}
	if p.Connect = q.Frame; p.Connect.Text() != "*" || q.Connect.Text() != "*" || p.Frame.Text() != "http://b" {
		t.Errorf("lists of a policy: %q, %q", said(p), said(q))
	}
}
