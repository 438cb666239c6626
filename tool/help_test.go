package tool_test

import (
	"slices"
	"strconv"
	"strings"
	"testing"

	"stereobate/api"
	"stereobate/block"
	"stereobate/catalog"
	"stereobate/disk"
	"stereobate/pack"
	"stereobate/script"
	"stereobate/tool"
)

// greatest is the greatest number of a line.
const greatest = 1000000

// box is a tool, and its disk.
type box struct {
	t *testing.T
	x *tool.Tool
	d *disk.Disk
}

// newBox: a tool whose heap has so many sectors.
func newBox(t *testing.T, heap, bits int) *box {
	t.Helper()
	x, e := tool.New(2+40+heap, 40, bits)
	if e != api.OK {
		t.Fatalf("New: %d", e)
	}
	return &box{t, x, x.Archive().Store().Disk}
}

// says: just these lines are replied.
func (b *box) says(text string, want ...string) {
	b.t.Helper()
	if l := b.x.Reply(text); !slices.Equal(l, want) {
		b.t.Fatalf("%s: %q, not %q", text, l, want)
	}
}

// silent: lines to each of which nothing is replied.
func (b *box) silent(texts ...string) {
	b.t.Helper()
	for _, text := range texts {
		b.says(text)
	}
}

// state is what can be seen of a tool but what its volumes have.
type state struct {
	archive          *block.Archive
	entries          []catalog.Entry
	epoch            uint32
	room, free, late int
	held, loose      []int
	dead             bool
	files            []string
}

// names are those of the files that a test may have.
func names() []string {
	l := []string{"d", "e", "f", "abc", "0123456789abcdef"}
	for i := range 20 {
		l = append(l, "f"+strconv.Itoa(i))
	}
	return l
}

func (b *box) state() state {
	s := state{archive: b.x.Archive(), loose: b.d.Loose(), dead: b.d.Dead()}
	if a := s.archive; a != nil {
		t := a.Store()
		s.entries, s.epoch, s.room = a.Entries(), t.Super.Epoch, a.Room()
		s.free, s.late, s.held = t.Heap.Free(), t.Heap.Late(), t.Heap.All()
	}
	for _, w := range names() {
		text, ok := b.x.File(w)
		s.files = append(s.files, strconv.FormatBool(ok)+text)
	}
	return s
}

func (s state) same(o state) bool {
	return s.archive == o.archive && slices.Equal(s.entries, o.entries) && s.epoch == o.epoch && s.room == o.room && s.free == o.free &&
		s.late == o.late && slices.Equal(s.held, o.held) && slices.Equal(s.loose, o.loose) && s.dead == o.dead && slices.Equal(s.files, o.files)
}

// still: what runs changes nothing.
func (b *box) still(what string, run func()) {
	b.t.Helper()
	was := b.state()
	run()
	if s := b.state(); !s.same(was) {
		b.t.Fatalf("%s: something has changed: %+v, not %+v", what, s, was)
	}
}

// refused: an error is replied, and nothing has changed.
func (b *box) refused(text, name string) {
	b.t.Helper()
	b.still(text, func() {
		b.t.Helper()
		b.says(text, "error "+name)
	})
}

// asks: these lines are replied, and nothing has changed.
func (b *box) asks(text string, want ...string) {
	b.t.Helper()
	b.still(text, func() {
		b.t.Helper()
		b.says(text, want...)
	})
}

// made: a line makes a volume: its number.
func (b *box) made(text string) int {
	b.t.Helper()
	l := b.x.Reply(text)
	if len(l) != 1 {
		b.t.Fatalf("%s: %q", text, l)
	}
	n, err := strconv.Atoi(l[0])
	if err != nil {
		b.t.Fatalf("%s: %q", text, l)
	}
	return n
}

// read: all sectors of a volume, as the archive has them.
func (b *box) read(id uint32) string {
	b.t.Helper()
	v, e := b.x.Archive().Info(id)
	b.works(e)
	s, e := b.x.Archive().Read(id, 0, v.Size)
	b.works(e)
	return s
}

func (b *box) works(e api.Errno) {
	b.t.Helper()
	if e != api.OK {
		b.t.Fatalf("a call: %d", e)
	}
}

// file: what a file has.
func (b *box) file(name string) string {
	b.t.Helper()
	text, ok := b.x.File(name)
	if !ok {
		b.t.Fatalf("there is no file %s", name)
	}
	return text
}

// spoil: a byte of a sector is another one, or, asked again, as it was.
func (b *box) spoil(at, by int) {
	b.t.Helper()
	b.works(pack.Guard(func() { b.d.Spoil(at, by, 0x55) }))
}

// bytes: all that a disk has.
func bytes(d *disk.Disk) string {
	var out strings.Builder
	pack.Guard(func() {
		for at := range d.Len() {
			out.WriteString(d.Read(at))
		}
	})
	return out.String()
}

// others: a line of each verb but mount, crash and arm, of volumes 1 and 2 and a file d.
func others() []string {
	return []string{
		"create 5", "snapshot 1", "clone 1", "delete 1", "resize 1 7", "trim 1 0 1", "write 1 0 1 abc", "read 1 0 1", "changed 1 2",
		"sum 1", "export 1 2 d", "import 1 d", "flush", "checkpoint", "scrub", "space", "list", "prune 1",
	}
}

// line: a text as a line.
func line(t *testing.T, text string) script.Line {
	t.Helper()
	l, e := script.Parse(text)
	if e != api.OK {
		t.Fatalf("Parse(%q): %d", text, e)
	}
	return l
}

// noise: numbers below n, the same ones of the same seed.
func noise(seed uint64) func(n int) int {
	return func(n int) int {
		seed = seed*6364136223846793005 + 1442695040888963407
		return int((seed >> 33) % uint64(n))
	}
}

// sector: a word as a sector.
func sector(word string) string {
	return word + strings.Repeat("\x00", 64-len(word))
}
