package tool_test

import (
	"slices"
	"strconv"
	"strings"
	"testing"

	"stereobate/api"
	"stereobate/disk"
	"stereobate/pack"
	"stereobate/redo"
	"stereobate/script"
	"stereobate/ship"
	"stereobate/space"
	"stereobate/super"
	"stereobate/tool"
)

// P27.1: create: a line with its number; sizes that there aren't; one too many.
func TestCreate(t *testing.T) {
	b := newBox(t, 200, 256)
	for _, n := range []int{0, -1, 2049, greatest, -greatest} {
		b.refused("create "+strconv.Itoa(n), "arg")
	}
	b.says("create 1", "1")
	b.says("create 2048", "2")
	b.asks("list", "1 1", "2 2048")
	for i := range 14 {
		b.says("create 5", strconv.Itoa(3+i))
	}
	b.refused("create 5", "full")
	b.refused("create 0", "arg")
	b.refused("clone 1", "full")
	b.refused("snapshot 1", "full")
	b.refused("clone 17", "none")
	b.silent("delete 4")
	b.says("create 5", "17")
}

// P27.1: snapshot, clone: copies, each with its number; of volumes that there aren't.
func TestCopies(t *testing.T) {
	b := newBox(t, 200, 256)
	b.says("create 5", "1")
	b.silent("write 1 3 2 abc")
	b.says("snapshot 1", "2")
	b.says("clone 2", "3")
	b.says("clone 1", "4")
	b.asks("list", "1 5", "  2 5 only", "    3 5", "  4 5")
	b.silent("write 1 0 4 zz", "write 3 0 1 yy")
	b.asks("read 1 0 5", "0 zz", "1 zz", "2 zz", "3 zz", "4 abc")
	b.asks("read 2 0 5", "3 abc", "4 abc")
	b.asks("read 3 0 5", "0 yy", "3 abc", "4 abc")
	b.asks("read 4 0 5", "3 abc", "4 abc")
	b.refused("write 2 0 1 abc", "only")
	b.refused("trim 2 0 1", "only")
	b.refused("resize 2 6", "only")
	for _, n := range []string{"0", "5", "-1", "1000000"} {
		b.refused("snapshot "+n, "none")
		b.refused("clone "+n, "none")
	}
	b.silent("delete 2")
	b.asks("list", "1 5", "  4 5", "3 5")
}

// P27.1: delete; of a volume that there isn't (any more).
func TestDelete(t *testing.T) {
	b := newBox(t, 200, 256)
	b.refused("delete 1", "none")
	b.says("create 5", "1")
	b.says("create 6", "2")
	b.refused("delete 3", "none")
	b.refused("delete -1", "none")
	b.refused("delete 0", "none")
	b.silent("delete 1")
	b.asks("list", "2 6")
	b.refused("delete 1", "none")
	b.silent("delete 2")
	b.asks("list")
}

// P27.1: resize: what is beyond is gone for good.
func TestResize(t *testing.T) {
	b := newBox(t, 200, 256)
	b.says("create 9", "1")
	b.silent("write 1 0 9 abc", "resize 1 3")
	b.asks("list", "1 3")
	b.refused("read 1 0 4", "range")
	b.silent("resize 1 2048")
	b.asks("list", "1 2048")
	b.asks("read 1 0 64", "0 abc", "1 abc", "2 abc")
	for _, n := range []string{"0", "-1", "2049", "1000000"} {
		b.refused("resize 1 "+n, "arg")
		b.refused("resize 2 "+n, "none")
	}
}

// P27.1: write: a word into each of some sectors, with noughts behind it.
func TestWrite(t *testing.T) {
	b := newBox(t, 300, 256)
	b.says("create 70", "1")
	b.silent("write 1 0 64 x", "write 1 64 6 0123456789abcdef", "write 1 5 1 a")
	want := strings.Repeat(sector("x"), 64) + strings.Repeat(sector("0123456789abcdef"), 6)
	want = want[:5*64] + sector("a") + want[6*64:]
	if b.read(1) != want {
		t.Error("other bytes")
	}
	b.silent("write 1 5 1 bb", "write 1 5 0 cc", "write 1 70 0 cc")
	if b.read(1) != want[:5*64]+sector("bb")+want[6*64:] {
		t.Error("other bytes")
	}
	for _, n := range []string{"65", "-1", "1000000", "-1000000"} {
		b.refused("write 1 0 "+n+" a", "arg")
		b.refused("write 9 0 "+n+" a", "arg") // ahead of all that the volumes say
	}
	b.refused("write 2 0 1 a", "none")
	b.refused("write 2 0 64 a", "none")
	b.refused("write 1 -1 1 a", "range")
	b.refused("write 1 70 1 a", "range")
	b.refused("write 1 7 64 a", "range")
	b.refused("write 1 71 0 a", "range")
	b.refused("write 1 1000000 1 a", "range")
}

// P27.1: trim.
func TestTrim(t *testing.T) {
	b := newBox(t, 300, 256)
	b.says("create 20", "1")
	b.silent("write 1 0 20 x", "trim 1 1 18")
	b.asks("read 1 0 20", "0 x", "19 x")
	b.silent("trim 1 19 1", "trim 1 20 0", "trim 1 0 0")
	b.asks("read 1 0 20", "0 x")
	for _, s := range []string{"-1 1", "0 21", "20 1", "21 0", "0 -1", "1000000 1000000", "3 1000000"} {
		b.refused("trim 1 "+s, "range")
		b.refused("trim 2 "+s, "none")
	}
}

// P27.1: read: a line of each sector that isn't all bytes 0, up to 64 sectors.
func TestRead(t *testing.T) {
	b := newBox(t, 300, 256)
	b.says("create 200", "1")
	b.asks("read 1 0 64")
	b.silent("write 1 0 1 a", "write 1 63 2 b", "write 1 199 1 0")
	b.asks("read 1 0 64", "0 a", "63 b")
	b.asks("read 1 1 64", "63 b", "64 b")
	b.asks("read 1 136 64", "199 0")
	b.asks("read 1 64 1", "64 b")
	b.asks("read 1 65 64")
	b.asks("read 1 0 0")
	b.asks("read 1 200 0")
	b.refused("read 1 0 65", "arg")
	b.refused("read 1 0 1000000", "arg")
	b.refused("read 2 0 65", "arg")
	b.refused("read 2 0 64", "none")
	b.refused("read 2 0 -1", "none")
	for _, s := range []string{"0 -1", "-1 1", "-1 0", "200 1", "137 64", "201 0", "1000000 1", "-1000000 -1000000"} {
		b.refused("read 1 "+s, "range")
	}
}

// P27.1: what a sector has that no write of the tool's has written.
func TestReadOthers(t *testing.T) {
	b := newBox(t, 300, 256)
	b.says("create 9", "1")
	data := sector("aB c\x00d") + sector("") + strings.Repeat("\xff", 64) + sector("\x00z") + strings.Repeat("\x00", 63) + "q"
	_, e := b.x.Archive().Do(redo.Op{Kind: redo.Write, ID: 1, At: 1, Data: data})
	b.works(e)
	b.asks("read 1 0 9", "1 a??c?d", "3 "+strings.Repeat("?", 64), "4 ?z", "5 "+strings.Repeat("?", 63)+"q")
}

// P27.1: changed: a line of each range.
func TestChanged(t *testing.T) {
	b := newBox(t, 300, 256)
	b.says("create 30", "1")
	b.says("clone 1", "2")
	b.says("create 31", "3")
	b.asks("changed 1 2")
	b.asks("changed 1 1")
	b.silent("write 2 1 1 a", "write 2 9 6 b", "write 2 29 1 c")
	b.asks("changed 1 2", "0 4", "8 8", "28 2")
	b.asks("changed 2 1", "0 4", "8 8", "28 2")
	b.refused("changed 1 3", "size")
	b.refused("changed 1 4", "none")
	b.refused("changed 4 1", "none")
	b.refused("changed 0 1", "none")
	b.refused("changed -1 1", "none")
	b.refused("changed 1 -1", "none")
}

// P27.1: sum: a volume's, in hexadecimal.
func TestSum(t *testing.T) {
	b := newBox(t, 300, 256)
	b.says("create 30", "1")
	b.asks("sum 1", strings.Repeat("0", 64))
	b.silent("write 1 3 5 abc")
	s, e := b.x.Archive().Sum(1)
	b.works(e)
	b.asks("sum 1", s.Hex())
	b.refused("sum 2", "none")
	b.refused("sum 0", "none")
	b.refused("sum -1", "none")
}

// P27.1: flush: all is sure, and no checkpoint is made.
func TestFlush(t *testing.T) {
	b := newBox(t, 300, 256)
	b.says("create 30", "1")
	b.silent("write 1 0 1 a")
	s := b.x.Archive().Store().Super
	if len(b.d.Loose()) == 0 {
		t.Error("all is sure ahead of flush")
	}
	b.silent("flush")
	if len(b.d.Loose()) != 0 || b.x.Archive().Store().Super != s {
		t.Error("flush")
	}
	b.silent("crash", "mount")
	b.asks("read 1 0 30", "0 a")
}

// P27.1: checkpoint: one is made.
func TestCheckpoint(t *testing.T) {
	b := newBox(t, 300, 256)
	b.says("create 30", "1")
	b.silent("write 1 0 1 a")
	s, room := b.x.Archive().Store().Super, b.x.Archive().Room()
	b.silent("checkpoint")
	if n := b.x.Archive().Store().Super; len(b.d.Loose()) != 0 || n.Epoch != s.Epoch+1 || b.x.Archive().Room() <= room {
		t.Error("checkpoint")
	}
	b.silent("crash", "mount")
	b.asks("read 1 0 30", "0 a")
}

// P27.1: scrub: at how many it has looked, and each sector that is spoilt.
func TestScrub(t *testing.T) {
	b := newBox(t, 300, 256)
	b.asks("scrub", "0")
	b.says("create 200", "1")
	b.silent("write 1 0 64 a", "write 1 100 5 b", "write 1 50 1 c", "checkpoint")
	l := b.x.Archive().Store().Heap.All()
	n := strconv.Itoa(len(l))
	b.asks("scrub", n)
	leaves := 0
	for _, at := range l {
		b.spoil(at, 40)
		out := b.x.Reply("scrub")
		if len(out) != 2 || out[1] != "bad "+strconv.Itoa(at) {
			t.Errorf("%d: %q", at, out)
		}
		if out[0] == n {
			leaves++
		}
		b.spoil(at, 40)
	}
	if leaves == 0 || leaves == len(l) {
		t.Errorf("%d of %d sectors have none below them", leaves, len(l))
	}
	last := l[len(l)-3:]
	var bad []string
	for _, at := range last {
		b.spoil(at, 7)
		bad = append(bad, "bad "+strconv.Itoa(at))
	}
	if out := b.x.Reply("scrub"); len(out) < 2 || !slices.IsSorted(out[1:]) || !contains(bad, out[1:]) {
		t.Errorf("%q", out)
	}
}

// contains: are all of some texts among others?
func contains(all, some []string) bool {
	return !slices.ContainsFunc(some, func(s string) bool { return !slices.Contains(all, s) })
}

// P27.1: space: three lines; a sector that is spoilt.
func TestSpace(t *testing.T) {
	b := newBox(t, 300, 256)
	b.asks("space", "held 0", "late 0", "free 300")
	b.says("create 200", "1")
	b.silent("write 1 0 4 a", "checkpoint")
	b.asks("space", "held 9", "late 0", "free 291") // an entry, three nodes, a head, four sectors
	b.silent("write 1 4 4 b")
	u, e := space.Of(b.x.Archive())
	if e != api.OK || u.Late == 0 || u.Held == u.Late {
		t.Fatalf("Of: %+v, %d", u, e)
	}
	b.asks("space", "held "+strconv.Itoa(u.Held), "late "+strconv.Itoa(u.Late), "free "+strconv.Itoa(u.Free))
	v, e := b.x.Archive().Info(1)
	b.works(e)
	b.spoil(v.Root, 5)
	b.refused("space", "sum")
	b.spoil(v.Root, 5)
	b.asks("space", "held "+strconv.Itoa(u.Held), "late "+strconv.Itoa(u.Late), "free "+strconv.Itoa(u.Free))
}

// P27.1: list: each volume with all below it, as deep as it stands.
func TestList(t *testing.T) {
	b := newBox(t, 300, 256)
	b.asks("list")
	b.says("create 1", "1")
	b.says("create 2048", "2")
	b.says("snapshot 1", "3")
	b.says("clone 3", "4")
	b.says("snapshot 4", "5")
	b.says("clone 2", "6")
	b.says("clone 1", "7")
	b.silent("resize 4 17")
	b.asks("list", "1 1", "  3 1 only", "    4 17", "      5 1 only", "  7 1", "2 2048", "  6 2048")
	b.silent("delete 3", "delete 2")
	b.asks("list", "1 1", "  7 1", "4 17", "  5 1 only", "6 2048")
	for i := range 10 {
		b.says("clone "+strconv.Itoa(max(7, 7+i)), strconv.Itoa(8+i))
	}
	l := b.x.Reply("list")
	if want := strings.Repeat("  ", 11) + "17 1"; len(l) != 15 || !slices.Contains(l, want) {
		t.Errorf("%q", l)
	}
}

// P27.1: prune: a volume and all below it go; how many.
func TestPrune(t *testing.T) {
	b := newBox(t, 300, 256)
	b.refused("prune 1", "none")
	b.says("create 1", "1")
	b.says("create 2", "2")
	b.says("clone 1", "3")
	b.says("clone 3", "4")
	b.says("clone 1", "5")
	b.refused("prune 0", "none")
	b.refused("prune 6", "none")
	b.refused("prune -1", "none")
	b.says("prune 3", "2")
	b.asks("list", "1 1", "  5 1", "2 2")
	b.refused("prune 3", "none")
	b.says("prune 1", "2")
	b.says("prune 2", "1")
	b.asks("list")
}

// P27.1: export, import: a file; what it was made for, and what not.
func TestShip(t *testing.T) {
	b := newBox(t, 300, 256)
	b.says("create 30", "1")
	b.silent("write 1 2 9 abc")
	b.says("export 0 1 d", strconv.Itoa(77+3*259))
	b.says("clone 1", "2")
	b.silent("write 2 5 1 x", "trim 2 8 4")
	b.says("export 1 2 e", strconv.Itoa(77+259+3))
	for _, x := range []struct {
		name     string
		from, to uint32
	}{{"d", 0, 1}, {"e", 1, 2}} {
		text, e := ship.Export(b.x.Archive(), x.from, x.to)
		if e != api.OK || b.file(x.name) != text {
			t.Errorf("the file %s: %d", x.name, e)
		}
	}
	was, want := b.read(1), b.read(2)
	b.says("create 30", "3")
	b.refused("import 3 e", "base")
	b.refused("import 1 d", "base")
	b.silent("import 3 d")
	if b.read(3) != was {
		t.Error("import of d")
	}
	epoch := b.x.Archive().Store().Super.Epoch
	b.silent("import 3 e")
	if b.read(3) != want || b.read(1) != was || b.x.Archive().Store().Super.Epoch != epoch+1 {
		t.Error("import of e")
	}
	b.refused("import 3 e", "base")
	b.says("snapshot 1", "4")
	b.says("create 31", "5")
	b.refused("import 4 e", "only")
	b.refused("import 5 e", "size")
	b.refused("import 6 e", "none")
	b.refused("import -1 e", "none")
	b.refused("import 1 f", "none")
	b.refused("import 6 f", "none")
	b.refused("export 1 5 f", "size")
	b.refused("export 1 6 f", "none")
	b.refused("export 6 1 f", "none")
	b.refused("export 0 0 f", "none")
	b.refused("export -1 1 f", "none")
	b.refused("export 1 5 d", "size") // the file stays as it was
}

// P27.1: a file goes where another one of its name was, and stays whatever becomes of the volumes, and of the power.
func TestFiles(t *testing.T) {
	b := newBox(t, 300, 256)
	b.says("create 30", "1")
	b.says("export 0 1 abc", "77")
	was := b.file("abc")
	b.silent("write 1 0 1 a")
	if b.file("abc") != was {
		t.Error("the file has changed")
	}
	b.says("export 0 1 0123456789abcdef", "336")
	b.says("export 0 1 abc", "336")
	if b.file("abc") == was || b.file("abc") != b.file("0123456789abcdef") {
		t.Error("the file hasn't changed")
	}
	now := b.file("abc")
	b.silent("delete 1", "crash")
	if b.file("abc") != now {
		t.Error("the file has changed")
	}
	b.silent("mount")
	b.says("create 30", "1")
	b.silent("import 1 abc")
	b.asks("read 1 0 30", "0 a")
	for _, w := range []string{"", "ab", "abcd", "ABC", "abc ", "d"} {
		if text, ok := b.x.File(w); ok || text != "" {
			t.Errorf("File(%q)", w)
		}
	}
}

// P27.1: sixteen files, and no more.
func TestTooManyFiles(t *testing.T) {
	b := newBox(t, 300, 256)
	b.says("create 30", "1")
	for i := range 16 {
		b.refused("export 1 9 f"+strconv.Itoa(i), "none") // no file is made
		b.says("export 1 1 f"+strconv.Itoa(i), "77")
	}
	b.refused("export 1 1 f16", "full")
	b.refused("export 1 9 f16", "full")
	b.refused("export 1 9 f7", "none")
	b.silent("write 1 0 1 a")
	b.says("export 0 1 f7", "336")
	b.refused("export 0 1 f17", "full")
	b.says("export 0 1 f15", "336")
	b.silent("crash", "mount")
	b.refused("export 0 1 f16", "full")
	b.says("export 0 0 f3", "error none")
}

// P27.1: volumes are told by the lowest 32 bits of a number, and a volume's number is told as it is.
func TestLowest(t *testing.T) {
	b := newBox(t, 300, 256)
	b.silent("crash")
	b.works(pack.Guard(func() {
		s := super.Read(b.d)
		s.Epoch++
		s.Next = 1<<32 - 2
		s.Write(b.d)
		b.d.Sync()
	}))
	b.silent("mount")
	b.says("create 9", "4294967294")
	b.says("clone -2", "4294967295")
	b.silent("write -1 0 1 a", "write -2 8 1 b")
	b.asks("read -1 0 9", "0 a")
	b.asks("read -2 0 9", "8 b")
	b.asks("changed -2 -1", "0 4", "8 1")
	b.asks("list", "4294967294 9", "  4294967295 9")
	b.says("export -2 -1 d", strconv.Itoa(77+259+3))
	b.silent("import -2 d")
	b.asks("read -2 0 9", "0 a")
	b.silent("resize -1 3", "trim -1 0 1")
	b.asks("read -1 0 3")
	b.asks("sum -1", strings.Repeat("0", 64))
	b.silent("delete -1")
	b.says("prune -2", "1")
	b.asks("list")
}

// P27.1: mount: of the disk as it is, also where one is mounted; nothing is, where it fails.
func TestMount(t *testing.T) {
	b := newBox(t, 300, 256)
	b.says("create 30", "1")
	b.silent("write 1 0 1 a")
	was := b.x.Archive()
	b.silent("mount")
	if b.x.Archive() == was || b.x.Archive() == nil || b.x.Archive().Store().Disk != b.d {
		t.Error("mount")
	}
	b.asks("read 1 0 30", "0 a")
	b.silent("arm 0")
	b.says("mount", "error cut")
	if b.x.Archive() != nil || !b.d.Dead() {
		t.Error("something is mounted")
	}
	b.says("mount", "error cut")
	b.refused("list", "cut")
	b.silent("crash", "mount")
	b.asks("read 1 0 30", "0 a")
	for at := range 2 {
		b.spoil(at, 0)
	}
	b.says("mount", "error form")
	if b.x.Archive() != nil {
		t.Error("something is mounted")
	}
	b.refused("list", "cut")
	for at := range 2 {
		b.spoil(at, 0)
	}
	b.silent("mount")
	b.asks("read 1 0 30", "0 a")
}

// P27.1: crash: the disk's, by all numbers.
func TestCrash(t *testing.T) {
	for _, cuts := range [][]int{nil, {0}, {64}, {64, 64, 64, 64, 64, 64}, {-1, 5, 100}, {3, 0, 64, 17, greatest, -greatest}, {0, 0, 1}} {
		b := newBox(t, 300, 256)
		b.says("create 30", "1")
		b.silent("flush", "write 1 0 9 a", "write 1 20 1 b")
		if len(b.d.Loose()) < 3 {
			t.Fatalf("%v are loose", b.d.Loose())
		}
		want := b.d.Clone()
		want.Crash(cuts...)
		b.silent(script.Line{Verb: "crash", N: cuts}.Text())
		if b.x.Archive() != nil || bytes(b.d) != bytes(want) || len(b.d.Loose()) != 0 {
			t.Errorf("crash by %v", cuts)
		}
		b.silent("crash 5", "crash")
		if bytes(b.d) != bytes(want) {
			t.Error("another crash")
		}
		b.silent("mount")
	}
}

// P27.1: arm: so many calls of the disk work yet, until a crash.
func TestArm(t *testing.T) {
	for _, n := range []int{0, 1, 2, 7, -1, -greatest} {
		b := newBox(t, 300, 256)
		b.says("create 30", "1")
		b.silent("arm 500", "arm "+strconv.Itoa(n))
		for range n {
			b.silent("flush")
		}
		b.says("flush", "error cut")
		if !b.d.Dead() || b.x.Archive() == nil || !b.x.Archive().Dead() {
			t.Error("there is power")
		}
		for _, text := range others() {
			if text != "list" && text != "import 1 d" {
				b.refused(text, "cut")
			}
		}
		b.asks("list", "1 30") // it is what the archive has, still
		b.silent("arm 100")
		b.refused("flush", "cut")
		b.silent("crash", "mount")
		for range 20 {
			b.silent("flush")
		}
	}
}

// P27.1: what layer 19 says of the power: an archive within which it was cut is asked no more, though there is power.
func TestDead(t *testing.T) {
	b := newBox(t, 300, 256)
	b.says("create 30", "1")
	b.says("export 0 1 d", "77")
	b.silent("arm 0")
	b.says("import 1 d", "error cut")
	b.refused("import 1 d", "cut")
	b.refused("import 1 e", "none")
	b.refused("write 1 0 65 a", "arg")
	b.refused("write 1 0 1 a", "cut")
	b.refused("read 1 0 65", "arg")
	b.refused("delete 9", "cut")
	b.refused("prune 9", "none")
	b.silent("arm 5")
	b.refused("create 5", "cut")
	b.silent("crash", "mount")
	b.says("create 5", "1") // the first one wasn't flushed
}

// P27.1: unlike extents of one address are refused; no room.
func TestSpaceAndClash(t *testing.T) {
	b := newBox(t, 300, 1)
	b.says("create 30", "1")
	clash := 0
	for i := range 7 {
		text := "write 1 " + strconv.Itoa(4*i) + " 4 w" + strconv.Itoa(i)
		if l := b.x.Reply(text); len(l) > 0 {
			b.refused(text, "clash")
			clash++
		}
	}
	if clash < 5 {
		t.Errorf("%d clashes", clash)
	}
	b = newBox(t, 40, 256)
	b.says("create 2000", "1")
	full := 0
	for i := range 20 {
		was := b.read(1)
		l := b.x.Reply("write 1 " + strconv.Itoa(80*i) + " 1 w" + strconv.Itoa(i))
		if len(l) > 0 && (l[0] != "error space" || b.read(1) != was) {
			t.Fatalf("%q", l)
		}
		full += len(l)
	}
	if full == 0 || full == 20 {
		t.Errorf("%d have no room", full)
	}
}

// K3: what is answered shares nothing with what is answered later.
func TestApart(t *testing.T) {
	b := newBox(t, 300, 256)
	b.says("create 30", "1")
	b.silent("write 1 0 3 a")
	for _, text := range []string{"read 1 0 30", "space", "list", "scrub", "sum 1", "export 0 1 d", "nope"} {
		x := b.x.Reply(text)
		y := slices.Clone(x)
		for i := range x {
			x[i] = "zz"
		}
		_ = append(x, "zz")
		b.says(text, y...)
	}
}

// P1: a tool that New didn't make has a disk without sectors.
func TestNoDisk(t *testing.T) {
	x := new(tool.Tool)
	b := &box{t, x, disk.New(0)}
	for _, text := range others() {
		b.refused(text, "cut")
	}
	b.silent("crash", "crash 1 2", "arm 3")
	b.says("mount", "error form")
	if _, ok := x.File("d"); ok || x.Archive() != nil {
		t.Error("something is there")
	}
}
