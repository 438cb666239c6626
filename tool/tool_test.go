package tool_test

import (
	"strconv"
	"strings"
	"testing"

	"stereobate/api"
	"stereobate/script"
	"stereobate/tool"
)

// P27.1: the limits, and the example.
func TestExample(t *testing.T) {
	if tool.MaxFiles != 16 || tool.MaxLook != 64 {
		t.Errorf("%d, %d", tool.MaxFiles, tool.MaxLook)
	}
	b := newBox(t, 100, 256)
	b.says("create 5", "1")
	b.says("write 1 2 1 abc")
	b.says("read 1 0 5", "2 abc")
}

// P27.1: New of a disk that is too small, or of what may not be: the first error of Format, and nothing beside it.
func TestNewRefused(t *testing.T) {
	for _, x := range []struct {
		sectors, journal, bits int
		want                   api.Errno
	}{
		{30, 4, 256, api.ErrSpace}, {37, 4, 256, api.ErrSpace}, {0, 4, 256, api.ErrSpace}, {-5, 4, 256, api.ErrSpace}, {-1 << 63, 4, 1, api.ErrSpace},
		{545, 512, 256, api.ErrSpace}, {300, 3, 256, api.ErrArg}, {300, -1, 256, api.ErrArg}, {3000, 513, 256, api.ErrArg},
		{300, 4, 0, api.ErrArg}, {300, 4, -1, api.ErrArg}, {300, 4, 257, api.ErrArg}, {0, 0, 0, api.ErrArg}, {1<<63 - 1, 1<<63 - 1, 1<<63 - 1, api.ErrArg},
	} {
		if b, e := tool.New(x.sectors, x.journal, x.bits); b != nil || e != x.want {
			t.Errorf("New(%d, %d, %d): %v, %d", x.sectors, x.journal, x.bits, b, e)
		}
	}
}

// P27.1: New: an archive without volumes, mounted, on a disk of so many sectors, up to 4096; no files.
func TestNew(t *testing.T) {
	for _, x := range []struct{ sectors, journal, bits, len int }{{38, 4, 256, 38}, {300, 12, 1, 300}, {546, 512, 7, 546}, {4096, 4, 256, 4096}, {5000, 4, 256, 4096}, {1<<63 - 1, 4, 256, 4096}} {
		y, e := tool.New(x.sectors, x.journal, x.bits)
		if e != api.OK {
			t.Fatalf("New: %d", e)
		}
		b := &box{t, y, y.Archive().Store().Disk}
		s := y.Archive().Store().Super
		if b.d.Len() != x.len || s.Journal != x.journal || s.Bits != x.bits || s.Epoch != 2 || len(b.d.Loose()) != 0 {
			t.Errorf("New(%d, %d, %d): %d sectors, %+v", x.sectors, x.journal, x.bits, b.d.Len(), s)
		}
		b.asks("list")
		b.asks("space", "held 0", "late 0", "free "+strconv.Itoa(x.len-2-x.journal))
		for _, w := range append(names(), "") {
			if text, ok := y.File(w); text != "" || ok {
				t.Errorf("File(%q): %q", w, text)
			}
		}
	}
}

// P27.1, K3: two tools have nothing in common.
func TestTwo(t *testing.T) {
	x, y := newBox(t, 100, 256), newBox(t, 100, 256)
	x.says("create 5", "1")
	x.says("export 0 1 d", "77")
	y.asks("list")
	y.refused("import 1 d", "none")
	x.silent("crash")
	y.says("create 9", "1")
	x.silent("mount")
	x.refused("resize 1 0", "none") // it wasn't flushed
	if _, ok := x.x.File("d"); !ok {
		t.Error("the file is gone")
	}
}

// P27.1: a verb that there isn't, whatever is mounted, and whatever stands behind it.
func TestNoVerb(t *testing.T) {
	b := newBox(t, 100, 256)
	look := func() {
		for _, verb := range []string{"", "x", "Mount", "mount ", " mount", "crash\n", "creat", "createe", "help", "imports", "drop", "op", "\x00", "\xff"} {
			for _, l := range []script.Line{{Verb: verb}, {Verb: verb, N: []int{1, 2, 3}, Word: "abc"}, {Verb: verb, N: make([]int, 100)}} {
				b.still(verb, func() {
					if out, e := b.x.Do(l); out != nil || e != api.ErrKind {
						t.Errorf("Do of %+v: %q, %d", l, out, e)
					}
				})
			}
		}
	}
	look()
	b.silent("crash")
	look()
	b.refused("nope", "kind")
	b.refused("", "kind")
}

// P27.1: what Parse refuses isn't done.
func TestNotParsed(t *testing.T) {
	b := newBox(t, 100, 256)
	b.says("create 5", "1")
	for text, name := range map[string]string{
		"create": "end", "create x": "form", "create 5 6": "form", "create 05": "form", "create 1000001": "form", "write 1 0 1": "end", "write 1 0 1 A": "form",
		"list ": "form", "list 1": "form", " list": "kind", "List": "kind", "list\n": "kind", "export 0 1 abcdefghijklmnopq": "form",
		"crash x": "form", "arm": "end", "mount 1": "form", "crash" + strings.Repeat(" 1", 98): "big", strings.Repeat("x", 201): "big", strings.Repeat("x", 200): "kind",
	} {
		b.refused(text, name)
	}
	if b.x.Archive() == nil {
		t.Error("nothing is mounted")
	}
}

// P27.1: where nothing is mounted all but mount, crash and arm are ErrCut, ahead of all else.
func TestNotMounted(t *testing.T) {
	b := newBox(t, 200, 256)
	b.says("create 5", "1")
	b.says("clone 1", "2")
	b.says("export 1 2 d", "77")
	b.silent("checkpoint", "crash")
	for _, text := range append(others(), "create 0", "write 1 0 65 abc", "write 1 0 -1 abc", "read 1 0 65", "import 1 nofile", "delete 9", "export 1 9 e") {
		b.refused(text, "cut")
	}
	for i := range 15 {
		b.silent("mount")
		b.says("export 1 2 f"+strconv.Itoa(i), "77")
		b.silent("crash")
	}
	b.refused("export 1 2 more", "cut")
	if b.x.Archive() != nil {
		t.Error("something is mounted")
	}
	b.silent("arm 1000", "crash", "crash 1 2", "arm 1000", "mount")
	b.says("list", "1 5", "  2 5")
	b.refused("export 1 2 more", "full")
}

// P27.1: the errors' words.
func TestName(t *testing.T) {
	words := "ok form end big arg none range only space clash base sum cut full size kind"
	for e, want := range strings.Fields(words) {
		if s := tool.Name(api.Errno(e)); s != want {
			t.Errorf("Name(%d): %s", e, s)
		}
	}
	for _, e := range []api.Errno{16, 17, 100, 256, 1 << 32, 1<<63 - 1, -1, -15, -16, -256, -1 << 63} {
		if s := tool.Name(e); s != "other" {
			t.Errorf("Name(%d): %s", e, s)
		}
	}
	if tool.Name(api.ErrKind) != "kind" || tool.Name(api.ErrClash) != "clash" || tool.Name(api.OK) != "ok" {
		t.Error("Name")
	}
}

// P27.1: each byte as it is shown, ahead of others, among them, and at the end.
func TestShow(t *testing.T) {
	for i := range 256 {
		c := string([]byte{byte(i)})
		want := "?"
		if strings.Contains("abcdefghijklmnopqrstuvwxyz0123456789", c) {
			want = c
		}
		end := want
		if i == 0 {
			end = ""
		}
		for s, shown := range map[string]string{c + "a": want + "a", "a" + c + "b": "a" + want + "b", "a" + c: "a" + end, c: end, c + "\x00\x00": end, "\x00" + c + "z": "?" + want + "z", c + c: strings.Repeat(end, 2)} {
			if x := tool.Show(s); x != shown {
				t.Errorf("Show(%q): %q, not %q", s, x, shown)
			}
		}
	}
	for s, want := range map[string]string{
		"": "", "\x00": "", strings.Repeat("\x00", 64): "", strings.Repeat("\x00", 63) + "a": strings.Repeat("?", 63) + "a", sector("abc"): "abc",
		sector("aB1\x00c"): "a?1?c", strings.Repeat("x", 64): strings.Repeat("x", 64), strings.Repeat("y\x00", 100000): strings.Repeat("y?", 99999) + "y",
		"\u00e9": "??", "a b\n": "a?b?", "\x00\x00a\x00\x00": "??a",
	} {
		if x := tool.Show(s); x != want {
			t.Errorf("Show(%.80q): %.80q", s, x)
		}
	}
}

// P27.2: which lines a text has, and how they stand in what Run answers.
func TestRunLines(t *testing.T) {
	for text, want := range map[string]string{
		"":                             "",
		"\n":                           "",
		"\n\n\n":                       "",
		"flush":                        "flush\n",
		"flush\n":                      "flush\n",
		"\nflush\n\n\nflush":           "flush\nflush\n",
		"create 5":                     "create 5\n  1\n",
		"create 5\ncreate 6\n":         "create 5\n  1\ncreate 6\n  2\n",
		" ":                            " \n  error kind\n",
		" flush":                       " flush\n  error kind\n",
		"flush\r\n":                    "flush\r\n  error kind\n",
		"\x00\nflush":                  "\x00\n  error kind\nflush\n",
		"\xff\u2028\u0085":             "\xff\u2028\u0085\n  error kind\n",
		"space":                        "space\n  held 0\n  late 0\n  free 100\n",
		strings.Repeat("x", 201):       strings.Repeat("x", 201) + "\n  error big\n",
		"crash\nlist\nmount\nlist\nno": "crash\nlist\n  error cut\nmount\nlist\nno\n  error kind\n",
		"create 3\nwrite 1 0 2 k\nread 1 0 3\nread 1 0 4\ndelete 1\ndelete 1": "create 3\n  1\nwrite 1 0 2 k\nread 1 0 3\n  0 k\n  1 k\nread 1 0 4\n  error range\ndelete 1\ndelete 1\n  error none\n",
	} {
		if s := newBox(t, 100, 256).x.Run(text); s != want {
			t.Errorf("Run(%.40q): %q, not %q", text, s, want)
		}
	}
}

// P27.2, K4: Run of a text answers what Reply does of each of its lines, one behind the other.
func TestRunReplies(t *testing.T) {
	next := noise(7)
	lines := append(others(), others()...)
	lines = append(lines, "", "", "nope", "mount", "crash", "crash 3 64", "arm 5", "arm 100", "write 1 0 65 a", "create 5", "create", "read 1 0 5 6", "create 5", "clone 1", "mount", "mount", strings.Repeat("y", 300), "\t")
	for range 200 {
		var text, want strings.Builder
		one, other := newBox(t, 200, 256), newBox(t, 200, 256)
		for range next(60) {
			s := lines[next(len(lines))]
			text.WriteString(s + "\n")
			if s == "" {
				continue
			}
			want.WriteString(s + "\n")
			for _, x := range one.x.Reply(s) {
				want.WriteString("  " + x + "\n")
			}
		}
		if s := other.x.Run(text.String()); s != want.String() {
			t.Fatalf("%s:\n%s\nnot\n%s", text.String(), s, want.String())
		}
	}
}

// P27.1: Reply tells what Do answers of the line; Do answers nothing beside an error; a line stays as it is.
func TestReplies(t *testing.T) {
	next := noise(8)
	texts := append(others(), "mount", "crash", "crash 1 2 3", "arm 7", "arm 9", "mount", "mount", "create 5", "create 5", "write 1 0 65 a", "read 9 0 1")
	one, other := newBox(t, 200, 256), newBox(t, 200, 256)
	for range 2000 {
		text := texts[next(len(texts))]
		l := line(t, text)
		out, e := one.x.Do(l)
		if e != api.OK && out != nil || l.Text() != text {
			t.Fatalf("Do of %s: %q, %d, %s", text, out, e, l.Text())
		}
		if e != api.OK {
			out = []string{"error " + tool.Name(e)}
		}
		other.says(text, out...)
	}
}

// P1: any text, as one line and as many.
func TestAnyText(t *testing.T) {
	next := noise(9)
	b := newBox(t, 200, 256)
	bits := append(others(), "\n", "\n", " ", " 1", " -1", " 0", "abc", "\x00", "\xff", "mount\n", "crash", "arm", "create 3\n", "1000000", "-1000000")
	for range 3000 {
		text := ""
		for range next(12) {
			text += bits[next(len(bits))]
		}
		for _, s := range b.x.Reply(text) {
			if strings.Contains(s, "\n") || s == "" {
				t.Fatalf("Reply(%q): %q", text, s)
			}
		}
		if s := b.x.Run(text); s != "" && !strings.HasSuffix(s, "\n") {
			t.Fatalf("Run(%q): %q", text, s)
		}
	}
}

// FuzzRun: P1, P27.2: any text.
func FuzzRun(f *testing.F) {
	f.Add("create 5\nwrite 1 0 1 abc\nread 1 0 5\nexport 0 1 d\nimport 1 d")
	f.Add("create 9\nflush\narm 3\nclone 1\ncrash 1 2 3\nmount\nlist\nprune 1\nscrub\nspace\nsum 1")
	f.Fuzz(func(t *testing.T, text string) {
		one, other := newBox(t, 60, 2), newBox(t, 60, 2)
		want := ""
		for _, s := range strings.Split(text, "\n") {
			if s != "" {
				want += s + "\n"
				for _, x := range one.x.Reply(s) {
					want += "  " + x + "\n"
				}
			}
		}
		if s := other.x.Run(text); s != want {
			t.Errorf("%q, not %q", s, want)
		}
	})
}
