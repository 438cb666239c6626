package script_test

import (
	"slices"
	"strconv"
	"strings"
	"testing"

	"stereobate/api"
	"stereobate/script"
)

const (
	greatest = 1<<63 - 1
	least    = -1 << 63
)

// verbs: what follows each: n for a number, w for a word; * for any numbers.
func verbs() map[string]string {
	return map[string]string{
		"create": "n", "snapshot": "n", "clone": "n", "delete": "n", "arm": "n", "prune": "n", "sum": "n",
		"resize": "nn", "changed": "nn",
		"trim": "nnn", "read": "nnn",
		"write":  "nnnw",
		"export": "nnw",
		"import": "nw",
		"crash":  "*",
		"flush":  "", "checkpoint": "", "mount": "", "scrub": "", "space": "", "list": "",
	}
}

// same: are two lines the same?
func same(x, y script.Line) bool {
	return x.Verb == y.Verb && slices.Equal(x.N, y.N) && x.Word == y.Word
}

// is: a text is just this line, whose text it is.
func is(t *testing.T, text string, want script.Line) {
	t.Helper()
	if l, e := script.Parse(text); e != api.OK || !same(l, want) {
		t.Fatalf("Parse(%q): %+v, %d, not %+v", text, l, e, want)
	}
	if s := want.Text(); s != text {
		t.Fatalf("Text of %+v: %q, not %q", want, s, text)
	}
}

// isnt: a text is no line; nothing is told beside the error.
func isnt(t *testing.T, text string, want api.Errno) {
	t.Helper()
	if l, e := script.Parse(text); e != want || !same(l, script.Line{}) {
		t.Fatalf("Parse(%q): %+v, %d, not %d", text, l, e, want)
	}
}

// number: a text is that number.
func number(t *testing.T, s string, want int) {
	t.Helper()
	if n, e := script.Number(s); e != api.OK || n != want {
		t.Fatalf("Number(%q): %d, %d", s, n, e)
	}
}

// none: a text is no number.
func none(t *testing.T, s string) {
	t.Helper()
	if n, e := script.Number(s); e != api.ErrForm || n != 0 {
		t.Fatalf("Number(%q): %d, %d", s, n, e)
	}
}

// sample: a verb with words that are right, all unlike; of crash five.
func sample(verb string) []string {
	l := []string{verb}
	for i, c := range strings.ReplaceAll(verbs()[verb], "*", "nnnnn") {
		if c == 'n' {
			l = append(l, strconv.Itoa(7-5*i))
		} else {
			l = append(l, "w0rd")
		}
	}
	return l
}

// noise: numbers below n, the same ones of the same seed.
func noise(seed uint64) func(n int) int {
	return func(n int) int {
		seed = seed*6364136223846793005 + 1442695040888963407
		return int((seed >> 33) % uint64(n))
	}
}
