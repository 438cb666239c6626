package script_test

import (
	"maps"
	"regexp"
	"slices"
	"strconv"
	"strings"
	"testing"

	"stereobate/api"
	"stereobate/script"
)

// rule is what is asked of the lines of a verb: all of one, and what may be the beginning of one.
type rule struct{ whole, begun *regexp.Regexp }

// rules: by verbs, as expressions.
func rules() map[string]rule {
	const n, w = ` (?:0|-?[1-9][0-9]{0,5}|-?1000000)`, ` [a-z0-9]{1,16}`
	m := map[string]rule{}
	for verb, follows := range verbs() {
		whole, begun := verb, ""
		for _, c := range follows {
			begun += "(?:"
			switch c {
			case 'n':
				whole, begun = whole+n, begun+n
			case 'w':
				whole, begun = whole+w, begun+w
			case '*':
				whole, begun = whole+"(?:"+n+")*", begun+"(?:"+n+")*"
			}
		}
		begun = verb + begun + strings.Repeat(")?", len(follows))
		m[verb] = rule{regexp.MustCompile(`\A` + whole + `\z`), regexp.MustCompile(`\A` + begun + `\z`)}
	}
	return m
}

// reckon: what Parse should answer, built otherwise: a text that isn't a line has an end too soon, if more could
// still make it one, a blank and what follows ahead of all; else it is of no form.
func reckon(m map[string]rule, text string) api.Errno {
	if len(text) > 200 {
		return api.ErrBig
	}
	verb, _, _ := strings.Cut(text, " ")
	r, ok := m[verb]
	switch {
	case !ok:
		return api.ErrKind
	case r.whole.MatchString(text):
		return api.OK
	case r.begun.MatchString(text):
		return api.ErrEnd
	}
	return api.ErrForm
}

// holds: Parse answers what the reckoning asks for, and what is a line is one there and back.
func holds(t *testing.T, m map[string]rule, text string) api.Errno {
	t.Helper()
	want := reckon(m, text)
	if want != api.OK {
		isnt(t, text, want)
		return want
	}
	l, e := script.Parse(text)
	if e != api.OK || l.Text() != text {
		t.Fatalf("Parse(%q): %+v, %d", text, l, e)
	}
	words := strings.Split(text, " ")
	if l.Verb != words[0] {
		t.Fatalf("Parse(%q): %+v", text, l)
	}
	words = words[1:]
	for _, n := range l.N {
		if strconv.Itoa(n) != words[0] {
			t.Fatalf("Parse(%q): %+v", text, l)
		}
		words = words[1:]
	}
	if strings.Join(words, " ") != l.Word {
		t.Fatalf("Parse(%q): %+v", text, l)
	}
	is(t, l.Text(), l)
	return want
}

// P26.1, P26.2: texts of words that are right, or nearly.
func TestModel(t *testing.T) {
	m := rules()
	next := noise(1)
	heads := slices.Sorted(maps.Keys(m))
	words := []string{"0", "1", "-1", "17", "999999", "1000000", "-1000000", "1000001", "-1000001", "-0", "00", "05", "abc", "a1", "0a", "x", "aaaaaaaaaaaaaaaa", "aaaaaaaaaaaaaaaaa", "A", "", "-", "a-b"}
	count := map[api.Errno]int{}
	for range 100000 {
		l := []string{heads[next(len(heads))]}
		for range next(6) {
			l = append(l, words[next(min(len(words), 4+next(20)))])
		}
		if next(10) == 0 {
			l[0] += words[next(len(words))]
		}
		if next(30) == 0 {
			l = append(l, strings.Repeat("1", 150+next(60)))
		}
		count[holds(t, m, strings.Join(l, " "))]++
	}
	for _, e := range []api.Errno{api.OK, api.ErrForm, api.ErrEnd, api.ErrBig, api.ErrKind} {
		if count[e] < 100 {
			t.Errorf("%d of error %d", count[e], e)
		}
	}
}

// P26.1, P1: lines of which a byte, or some, are others; any bytes.
func TestBytes(t *testing.T) {
	m := rules()
	next := noise(2)
	for verb := range m {
		text := strings.Join(sample(verb), " ")
		for at := range len(text) {
			for b := range 256 {
				holds(t, m, text[:at]+string([]byte{byte(b)})+text[at+1:])
			}
			holds(t, m, text[:at])
			holds(t, m, text[at:])
			holds(t, m, text[:at]+text[at+1:])
			holds(t, m, text[:at]+" "+text[at:])
		}
	}
	for range 20000 {
		b := make([]byte, next(260))
		for i := range b {
			b[i] = byte(next(256))
		}
		holds(t, m, string(b))
	}
}

// FuzzParse: P26.1, P26.2: any text.
func FuzzParse(f *testing.F) {
	m := rules()
	for verb := range m {
		f.Add(strings.Join(sample(verb), " "))
	}
	f.Fuzz(func(t *testing.T, text string) { holds(t, m, text) })
}
