package script_test

import (
	"slices"
	"strconv"
	"strings"
	"testing"

	"stereobate/api"
	"stereobate/script"
)

// P26.1: the limits.
func TestLimits(t *testing.T) {
	if script.MaxWord != 16 || script.MaxNumber != 1000000 || api.MaxLine != 200 {
		t.Errorf("%d, %d, %d", script.MaxWord, script.MaxNumber, api.MaxLine)
	}
}

// P26.1, P26.2: each number there is, there and back; those beyond are none.
func TestNumbers(t *testing.T) {
	for n := -1000000; n <= 1000000; n++ {
		number(t, strconv.Itoa(n), n)
	}
	for i := range 1000 {
		none(t, strconv.Itoa(1000001+i))
		none(t, strconv.Itoa(-1000001-i))
	}
	for _, n := range []int{9999999, 10000000, 1 << 31, 1<<31 - 1, 1 << 32, 1<<32 + 5, greatest} {
		none(t, strconv.Itoa(n))
		none(t, strconv.Itoa(-n))
	}
	none(t, strconv.Itoa(least))
}

// P26.1: of all short texts just those are numbers that a number is told by.
func TestShortNumbers(t *testing.T) {
	told := map[string]int{}
	for n := -999; n <= 9999; n++ {
		told[strconv.Itoa(n)] = n
	}
	texts := []string{""}
	for range 4 {
		var longer []string
		for _, s := range texts {
			if n, ok := told[s]; ok {
				number(t, s, n)
			} else {
				none(t, s)
			}
			for _, c := range []string{"0", "1", "9", "-", "+", " ", ".", "_", "a", "e", "x", "\x00", "\n", "\xb2"} {
				longer = append(longer, s+c)
			}
		}
		texts = longer
	}
	for _, s := range texts {
		if n, ok := told[s]; ok {
			number(t, s, n)
		} else {
			none(t, s)
		}
	}
}

// P26.1: texts that others may take for numbers.
func TestNoNumbers(t *testing.T) {
	for _, s := range []string{
		"", "-", "--1", "+1", "-0", "00", "01", "-01", "0x10", "0b1", "0o7", "1e3", "1.0", "1_000", "1,000", " 1", "1 ", "1\n", "\t1", "-1-", "1-", "0-1",
		"0000001", "01000000", "-01000000", "1000000 ", "99999999999999999999", "-99999999999999999999", "18446744073709551617", "18446744073709551616",
		"\uff11", "\u0661", "\u22121", "\u00bd", "\xff", "nan", "inf", strings.Repeat("0", 100000), strings.Repeat("1", 100000), "-" + strings.Repeat("9", 100000),
	} {
		none(t, s)
	}
}

// P26.1: a word's bytes, one by one, at each place of each length.
func TestWord(t *testing.T) {
	const right = "abcdefghijklmnopqrstuvwxyz0123456789"
	for n := range 40 {
		s := strings.Repeat("k", n)
		if script.Word(s) != (n >= 1 && n <= 16) {
			t.Fatalf("Word of %d bytes", n)
		}
		for at := range n {
			for b := range 256 {
				c := string([]byte{byte(b)})
				want := n <= 16 && strings.Contains(right, c)
				if script.Word(s[:at]+c+s[at+1:]) != want {
					t.Fatalf("Word of %d bytes, %q at %d: %t", n, c, at, !want)
				}
			}
		}
	}
	for _, s := range []string{"\u00e9", "a b", "a-b", "a.b", "-1", "\u0430", "\uff41", strings.Repeat("a", 1000000)} {
		if script.Word(s) {
			t.Errorf("Word(%.30q)", s)
		}
	}
	if !script.Word("0") || !script.Word("007") || !script.Word("a0b1c2d3e4f5g6h7") {
		t.Error("Word")
	}
}

// P26.1: the example.
func TestExample(t *testing.T) {
	is(t, "write 1 0 2 abc", script.Line{Verb: "write", N: []int{1, 0, 2}, Word: "abc"})
}

// P26.1, P26.2: each verb with what follows it.
func TestVerbs(t *testing.T) {
	is(t, "create 5", script.Line{Verb: "create", N: []int{5}})
	is(t, "resize 1 -1000000", script.Line{Verb: "resize", N: []int{1, -1000000}})
	is(t, "trim 1 2 3", script.Line{Verb: "trim", N: []int{1, 2, 3}})
	is(t, "read -1 -2 1000000", script.Line{Verb: "read", N: []int{-1, -2, 1000000}})
	is(t, "write 3 0 1 0123456789abcdef", script.Line{Verb: "write", N: []int{3, 0, 1}, Word: "0123456789abcdef"})
	is(t, "export 0 1 5", script.Line{Verb: "export", N: []int{0, 1}, Word: "5"})
	is(t, "import 1 list", script.Line{Verb: "import", N: []int{1}, Word: "list"})
	is(t, "crash", script.Line{Verb: "crash"})
	is(t, "crash 64", script.Line{Verb: "crash", N: []int{64}})
	is(t, "crash 64 -1 0 0", script.Line{Verb: "crash", N: []int{64, -1, 0, 0}})
	is(t, "list", script.Line{Verb: "list"})
	for verb := range verbs() {
		l := sample(verb)
		text := strings.Join(l, " ")
		want := script.Line{Verb: verb}
		for _, w := range l[1:] {
			if n, err := strconv.Atoi(w); err == nil {
				want.N = append(want.N, n)
			} else {
				want.Word = w
			}
		}
		is(t, text, want)
	}
}

// P26.1: of each verb words that are missing, one too many, and ones that are none, at each place.
func TestPlaces(t *testing.T) {
	wrong := map[rune][]string{
		'n': {"", "x", "-0", "05", "1000001", "-1000001", "+1", "1.", "0x1"},
		'w': {"", "A", "a_b", "-1", "abcdefghijklmnopq", "\u00e9", "a\n"},
		'*': {"", "x", "-0", "05", "1000001"},
	}
	for verb, follows := range verbs() {
		l := sample(verb)
		for n := 1; n < len(l) && follows != "*"; n++ {
			isnt(t, strings.Join(l[:n], " "), api.ErrEnd)
			isnt(t, strings.Join(l[:n], " ")+" ", api.ErrForm)
		}
		for at := 1; at < len(l); at++ {
			kind := '*'
			if follows != "*" {
				kind = rune(follows[at-1])
			}
			for _, w := range wrong[kind] {
				x := slices.Clone(l)
				x[at] = w
				isnt(t, strings.Join(x, " "), api.ErrForm)
				isnt(t, strings.Join(x[:at+1], " "), api.ErrForm) // ahead of what is missing
				isnt(t, strings.Join(append(x, "1", "A"), " "), api.ErrForm)
			}
		}
		text := strings.Join(l, " ")
		more := []string{" ", "  ", " x", " A", " -0", "\n", "\t", " \n"}
		if follows != "*" {
			more = append(more, " 1", " 1 2", " abc")
		}
		for _, s := range more {
			want := api.ErrForm
			if len(l) == 1 && s[0] != ' ' { // it is another word, then, than the verb
				want = api.ErrKind
			}
			isnt(t, text+s, want)
		}
	}
}

// P26.1: the first word that isn't right is told, not one behind it.
func TestFirst(t *testing.T) {
	for text, want := range map[string]api.Errno{
		"write":                api.ErrEnd,
		"write x":              api.ErrForm,
		"write 1":              api.ErrEnd,
		"write 1 x":            api.ErrForm,
		"write 1 2 3":          api.ErrEnd,
		"write 1 2 abc":        api.ErrForm,
		"write 1 2 3 abc 4":    api.ErrForm,
		"write 1 2 3 4":        api.OK,
		"write 1 2 3 4 5":      api.ErrForm,
		"write abc 1 2 3":      api.ErrForm,
		"import abc":           api.ErrForm,
		"import 1":             api.ErrEnd,
		"import 1 2":           api.OK,
		"export 1 abc":         api.ErrForm,
		"resize 1":             api.ErrEnd,
		"resize  1 2":          api.ErrForm,
		"resize 1  2":          api.ErrForm,
		"resize 1 2 3":         api.ErrForm,
		"crash x":              api.ErrForm,
		"crash 1 2 3 abc":      api.ErrForm,
		"crash 1 abc 2":        api.ErrForm,
		"list list":            api.ErrForm,
		"flush 0":              api.ErrForm,
		"create 5\ncreate 5":   api.ErrForm,
		"create 5\x00":         api.ErrForm,
		"create\u00a05":        api.ErrKind,
		"nope 1 2 3 A \x00 \n": api.ErrKind,
	} {
		if want == api.OK {
			if l, e := script.Parse(text); e != api.OK || l.Text() != text {
				t.Errorf("Parse(%q): %d", text, e)
			}
			continue
		}
		isnt(t, text, want)
	}
}

// P26.1: what no verb is, whatever follows.
func TestNoVerb(t *testing.T) {
	for _, s := range []string{"", "x", "help", "0", "5", "abc", "verb", "\x00", "\xff", "w", "listen", "create5", "create,5", "create\t5", "flush\n", "mount\x00", "ok", "export1"} {
		for _, behind := range []string{"", " ", " 1", " 1 2 3 abc", "  ", " x"} {
			isnt(t, s+behind, api.ErrKind)
		}
	}
	for verb := range verbs() {
		for i := range len(verb) {
			isnt(t, verb[:i]+verb[i+1:]+" 1", api.ErrKind)
			isnt(t, verb[:i]+strings.ToUpper(verb[i:i+1])+verb[i+1:]+" 1", api.ErrKind)
			isnt(t, verb[:i]+"_"+verb[i+1:], api.ErrKind)
			isnt(t, verb[:i]+" "+verb[i:], api.ErrKind)
		}
		isnt(t, " "+strings.Join(sample(verb), " "), api.ErrKind)
		isnt(t, verb+verb, api.ErrKind)
		isnt(t, verb+"\n", api.ErrKind)
	}
}

// P26.1: up to 200 bytes, whatever they are; above them it is too big, ahead of all else.
func TestBig(t *testing.T) {
	long := "crash" + strings.Repeat(" 1", 97)
	is(t, long+"2", script.Line{Verb: "crash", N: append(slices.Repeat([]int{1}, 96), 12)}) // 200 bytes
	isnt(t, long+" ", api.ErrForm)
	isnt(t, long+"23", api.ErrBig)
	isnt(t, long+" 1", api.ErrBig)
	for n := 190; n < 400; n++ {
		for s, want := range map[string]api.Errno{"x": api.ErrKind, " ": api.ErrKind, "\x00": api.ErrKind} {
			if n > 200 {
				want = api.ErrBig
			}
			isnt(t, strings.Repeat(s, n), want)
		}
		want := api.ErrForm
		if n > 200 {
			want = api.ErrBig
		}
		isnt(t, "create "+strings.Repeat("1", n-7), want)
		isnt(t, "create "+strings.Repeat(" ", n-7), want)
		isnt(t, "list"+strings.Repeat(" ", n-4), want)
		isnt(t, "write 1 2 3 "+strings.Repeat("a", n-12), want)
	}
	isnt(t, strings.Repeat("create 1 ", 1000000), api.ErrBig)
	isnt(t, strings.Repeat("\u00e9", 100), api.ErrKind) // 200 bytes, not 200 runes
	isnt(t, strings.Repeat("\u00e9", 101), api.ErrBig)
}

// P26.1: the text of any line, also of those that none is parsed of.
func TestText(t *testing.T) {
	for _, x := range []struct {
		l    script.Line
		want string
	}{
		{script.Line{}, ""},
		{script.Line{Verb: "x"}, "x"},
		{script.Line{Verb: "x", N: []int{}}, "x"},
		{script.Line{Word: "y"}, " y"},
		{script.Line{N: []int{0}}, " 0"},
		{script.Line{Verb: "x", N: []int{1, -2}, Word: "y"}, "x 1 -2 y"},
		{script.Line{Verb: "list", N: []int{greatest, least}}, "list 9223372036854775807 -9223372036854775808"},
		{script.Line{Verb: "a b", Word: " "}, "a b  "},
		{script.Line{Verb: "\xff", Word: "\x00\n"}, "\xff \x00\n"},
	} {
		if s := x.l.Text(); s != x.want {
			t.Errorf("Text of %+v: %q", x.l, s)
		}
	}
}

// K3: what is answered shares nothing, and a line stays as it is.
func TestApart(t *testing.T) {
	x, _ := script.Parse("crash 1 2 3")
	y, _ := script.Parse("crash 1 2 3")
	x.N[0] = 9
	x.N = append(x.N, 4)
	if y.Text() != "crash 1 2 3" || x.Text() != "crash 9 2 3 4" {
		t.Errorf("%s, %s", x.Text(), y.Text())
	}
	n := []int{1, 2, 3, 4}
	if s := (script.Line{Verb: "x", N: n[:2]}).Text(); s != "x 1 2" || !slices.Equal(n, []int{1, 2, 3, 4}) {
		t.Errorf("%s, %v", s, n)
	}
}
