package track_test

import (
	"slices"
	"strings"
	"testing"

	"stereobate/api"
	"stereobate/block"
	"stereobate/catalog"
	"stereobate/disk"
	"stereobate/pack"
	"stereobate/redo"
	"stereobate/track"
)

const greatest = 1<<63 - 1

// box is an archive, with what it lies in.
type box struct {
	t *testing.T
	d *disk.Disk
	a *block.Archive
}

// newBox: an archive whose heap has so many sectors.
func newBox(t *testing.T, heap, bits int) *box {
	t.Helper()
	d := disk.New(2 + 40 + heap)
	if e := block.Format(d, 40, bits); e != api.OK {
		t.Fatalf("Format: %d", e)
	}
	return over(t, d)
}

// over: the archive of a disk.
func over(t *testing.T, d *disk.Disk) *box {
	t.Helper()
	a, e := block.Mount(d)
	if e != api.OK {
		t.Fatalf("Mount: %d", e)
	}
	return &box{t, d, a}
}

// again: the archive of a copy of the disk, behind a crash.
func (b *box) again() *box {
	b.t.Helper()
	d := b.d.Clone()
	d.Crash()
	return over(b.t, d)
}

func (b *box) works(e api.Errno) {
	b.t.Helper()
	if e != api.OK {
		b.t.Fatalf("a call: %d", e)
	}
}

// do: an op that works.
func (b *box) do(o redo.Op) uint32 {
	b.t.Helper()
	id, e := b.a.Do(o)
	if e != api.OK {
		b.t.Fatalf("Do of kind %d: %d", o.Kind, e)
	}
	return id
}

func (b *box) create(n int) uint32 {
	b.t.Helper()
	return b.do(redo.Op{Kind: redo.Create, N: n})
}

func (b *box) clone(id uint32) uint32 {
	b.t.Helper()
	return b.do(redo.Op{Kind: redo.Clone, ID: id})
}

func (b *box) snapshot(id uint32) uint32 {
	b.t.Helper()
	return b.do(redo.Op{Kind: redo.Snapshot, ID: id})
}

func (b *box) write(id uint32, at int, data string) {
	b.t.Helper()
	b.do(redo.Op{Kind: redo.Write, ID: id, At: at, Data: data})
}

func (b *box) trim(id uint32, at, n int) {
	b.t.Helper()
	b.do(redo.Op{Kind: redo.Trim, ID: id, At: at, N: n})
}

func (b *box) resize(id uint32, n int) {
	b.t.Helper()
	b.do(redo.Op{Kind: redo.Resize, ID: id, N: n})
}

// read: all that a volume has.
func (b *box) read(id uint32) string {
	b.t.Helper()
	x, e := b.a.Info(id)
	b.works(e)
	s, e := b.a.Read(id, 0, x.Size)
	b.works(e)
	return s
}

// state is what can be seen of an archive but what its volumes read.
type state struct {
	entries     []catalog.Entry
	next, epoch uint32
	room        int
	free, late  int
	held, refs  []int
	extents     int
	loose       []int
	dead        bool
}

func (b *box) state() state {
	t := b.a.Store()
	s := state{b.a.Entries(), t.Next(), t.Super.Epoch, b.a.Room(), t.Heap.Free(), t.Heap.Late(), t.Heap.All(), nil, t.Maps.Extents.Count(), b.d.Loose(), b.a.Dead()}
	for _, at := range s.held {
		s.refs = append(s.refs, t.Heap.Refs(at))
	}
	return s
}

func (s state) same(o state) bool {
	return slices.Equal(s.entries, o.entries) && s.next == o.next && s.epoch == o.epoch && s.room == o.room &&
		s.free == o.free && s.late == o.late && slices.Equal(s.held, o.held) && slices.Equal(s.refs, o.refs) &&
		s.extents == o.extents && slices.Equal(s.loose, o.loose) && s.dead == o.dead
}

// quiet: what runs changes nothing of an archive, and neither writes nor syncs.
func (b *box) quiet(run func()) {
	b.t.Helper()
	was := b.state()
	b.d.Arm(0)
	run()
	if b.d.Dead() {
		b.t.Fatal("the disk was written, or synced")
	}
	b.d.Arm(greatest)
	if s := b.state(); !s.same(was) {
		b.t.Fatalf("something has changed: %+v, not %+v", s, was)
	}
}

// refused: both calls answer so, and nothing beside it.
func (b *box) refused(what string, from, to uint32, want api.Errno) {
	b.t.Helper()
	if l, e := track.Extents(b.a, from, to); e != want || l != nil {
		b.t.Errorf("%s: Extents(%d, %d): %v, %d, not %d", what, from, to, l, e, want)
	}
	if l, e := track.Changed(b.a, from, to); e != want || l != nil {
		b.t.Errorf("%s: Changed(%d, %d): %v, %d, not %d", what, from, to, l, e, want)
	}
}

// is: what both calls answer of two volumes, and the other way round.
func (b *box) is(what string, from, to uint32, extents []int, ranges []track.Range) {
	b.t.Helper()
	b.quiet(func() {
		b.t.Helper()
		for _, ids := range [][2]uint32{{from, to}, {to, from}} {
			if l, e := track.Extents(b.a, ids[0], ids[1]); e != api.OK || !slices.Equal(l, extents) {
				b.t.Fatalf("%s: Extents%v: %v, %d, not %v", what, ids, l, e, extents)
			}
			if l, e := track.Changed(b.a, ids[0], ids[1]); e != api.OK || !slices.Equal(l, ranges) {
				b.t.Fatalf("%s: Changed%v: %v, %d, not %v", what, ids, l, e, ranges)
			}
		}
	})
}

// holds: what both calls answer is what the volumes' bytes ask for; how many extents are others.
func (b *box) holds(what string, from, to uint32) int {
	b.t.Helper()
	extents, ranges := differ(b.read(from), b.read(to))
	b.is(what, from, to, extents, ranges)
	return len(extents)
}

// differ: which extents of two texts of one length are others, by their bytes; and the ranges: sector by sector,
// each of these extents, by whether the one ahead is in a range.
func differ(x, y string) ([]int, []track.Range) {
	var extents []int
	var ranges []track.Range
	in := make([]bool, len(x)/64+1) // the last one is none's
	for at := range len(in) - 1 {
		first := at / 4 * 4
		last := min(first+4, len(x)/64)
		in[at] = x[first*64:last*64] != y[first*64:last*64]
		if in[at] && at == first {
			extents = append(extents, at/4)
		}
	}
	began := 0
	for at := range in {
		if in[at] && (at == 0 || !in[at-1]) {
			began = at
		}
		if at > 0 && !in[at] && in[at-1] {
			ranges = append(ranges, track.Range{At: began, N: at - began})
		}
	}
	return extents, ranges
}

// lay: bytes in a sector of a disk, sure.
func (b *box) lay(at int, s string) {
	b.t.Helper()
	b.works(pack.Guard(func() { b.d.Write(at, s); b.d.Sync() }))
}

// entry: a volume of the last checkpoint's catalog, the sector in which it lies, and where the next one does.
func (b *box) entry(id uint32) (catalog.Entry, int, int) {
	b.t.Helper()
	at := b.a.Store().Super.Head
	for range 20 {
		var x catalog.Entry
		next := 0
		b.works(pack.Guard(func() { x, next = catalog.Parse(b.d.Read(at)) }))
		if x.ID == id {
			return x, at, next
		}
		at = next
	}
	b.t.Fatalf("volume %d isn't in the catalog", id)
	return catalog.Entry{}, 0, 0
}

// spoil: a byte of a sector is another one, or, asked again, as it was.
func (b *box) spoil(at int) {
	b.t.Helper()
	b.works(pack.Guard(func() { b.d.Spoil(at, 9, 0x10) }))
}

// noise: numbers below n, the same ones of the same seed.
func noise(seed uint64) func(n int) int {
	return func(n int) int {
		seed = seed*6364136223846793005 + 1442695040888963407
		return int((seed >> 33) % uint64(n))
	}
}

// some: so many sectors of noise, no byte of which is 0.
func some(next func(int) int, sectors int) string {
	b := make([]byte, 64*sectors)
	for i := range b {
		b[i] = byte(1 + next(255))
	}
	return string(b)
}

// of: so many sectors that all have the same bytes.
func of(s string, sectors int) string {
	return strings.Repeat(s, 64*sectors)
}
