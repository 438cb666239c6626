package store_test

import (
	"maps"
	"slices"
	"strings"
	"testing"

	"stereobate/api"
	"stereobate/catalog"
	"stereobate/crc"
	"stereobate/disk"
	"stereobate/pack"
	"stereobate/sha"
	"stereobate/store"
	"stereobate/super"
	"stereobate/walk"
)

// box is a store, with what it lies in.
type box struct {
	t *testing.T
	d *disk.Disk
	s *store.Store
}

// formatted: a disk of which the heap has so many sectors, behind a journal.
func formatted(t *testing.T, heap, journal, bits int) *disk.Disk {
	t.Helper()
	d := disk.New(2 + journal + heap)
	if e := format(d, journal, bits); e != api.OK {
		t.Fatalf("Format of %d sectors: %d", d.Len(), e)
	}
	return d
}

func format(d *disk.Disk, journal, bits int) api.Errno {
	return pack.Guard(func() { store.Format(d, journal, bits) })
}

// newBox: the store of such a disk.
func newBox(t *testing.T, heap, journal, bits int) *box {
	t.Helper()
	return over(t, formatted(t, heap, journal, bits))
}

// over: the store of a disk.
func over(t *testing.T, d *disk.Disk) *box {
	t.Helper()
	s, e := open(d)
	if e != api.OK || s == nil {
		t.Fatalf("Open: %d", e)
	}
	return &box{t, d, s}
}

func open(d *disk.Disk) (*store.Store, api.Errno) {
	var s *store.Store
	e := pack.Guard(func() { s = store.Open(d) })
	return s, e
}

// fails: Open of a disk fails so, and leaves the disk as it was.
func fails(t *testing.T, what string, d *disk.Disk, want api.Errno) {
	t.Helper()
	was := d.Clone()
	if s, e := open(d); e != want || s != nil {
		t.Errorf("%s: Open: %v, %d, not %d", what, s, e, want)
	}
	alike(t, what, d, was)
}

// again: the store of a copy of the disk behind a crash.
func (b *box) again(cuts ...int) *box {
	b.t.Helper()
	d := b.d.Clone()
	d.Crash(cuts...)
	return over(b.t, d)
}

// whole: cuts by which nothing is torn.
func whole(d *disk.Disk) []int {
	return slices.Repeat([]int{64}, d.Len())
}

// commit: a checkpoint that works, and is whole.
func (b *box) commit() {
	b.t.Helper()
	if e := pack.Guard(b.s.Commit); e != api.OK {
		b.t.Fatalf("Commit: %d, with %d volumes and %d free sectors", e, len(b.s.Entries()), b.s.Heap.Free())
	}
	b.settled()
}

// works: a call without an error.
func (b *box) works(e api.Errno) {
	b.t.Helper()
	if e != api.OK {
		b.t.Fatalf("a call: %d", e)
	}
}

// made: the number of a volume that is made.
func (b *box) made(id uint32, e api.Errno) uint32 {
	b.t.Helper()
	b.works(e)
	return id
}

// fill: sectors of noise in a volume.
func (b *box) fill(id uint32, at, n int, seed uint64) {
	b.t.Helper()
	b.works(b.s.Write(id, at, some(noise(seed), n*64)))
}

// text: all that a volume reads.
func (b *box) text(x catalog.Entry) string {
	b.t.Helper()
	s, e := b.s.Read(x.ID, 0, x.Size)
	b.works(e)
	return s
}

// view is all that is asked of volumes, but their store.
type view struct {
	entries []catalog.Entry
	texts   []string
	sums    []sha.Sum
	next    uint32
}

func (b *box) view() view {
	b.t.Helper()
	v := view{entries: b.s.Entries(), next: b.s.Next()}
	for _, x := range v.entries {
		sum, e := b.s.Sum(x.ID)
		b.works(e)
		v.texts, v.sums = append(v.texts, b.text(x)), append(v.sums, sum)
	}
	return v
}

// differs: in what two views are others; "": in nothing.
func (v view) differs(o view) string {
	switch {
	case v.next != o.next:
		return "the next number"
	case !slices.Equal(v.entries, o.entries):
		return "the entries"
	case !slices.Equal(v.texts, o.texts):
		return "the sectors"
	case !slices.Equal(v.sums, o.sums):
		return "the digests"
	}
	return ""
}

// is: the volumes are as a view says.
func (b *box) is(what string, want view) {
	b.t.Helper()
	if v := b.view(); v.differs(want) != "" {
		b.t.Fatalf("%s: %s: %+v, %d, not %+v, %d", what, v.differs(want), v.entries, v.next, want.entries, want.next)
	}
}

// held is what a heap has, and how many extents there are.
type held struct {
	refs        map[int]int
	late, count int
}

func (b *box) held() held {
	h := held{map[int]int{}, b.s.Heap.Late(), b.s.Maps.Extents.Count()}
	for _, at := range b.s.Heap.All() {
		h.refs[at] = b.s.Heap.Refs(at)
	}
	return h
}

func (b *box) holds(what string, want held) {
	b.t.Helper()
	if h := b.held(); !maps.Equal(h.refs, want.refs) || h.late != want.late || h.count != want.count {
		b.t.Fatalf("%s: %+v, not %+v", what, h, want)
	}
}

// entries: the catalog on the disk, and where its sectors lie.
func (b *box) entries() ([]catalog.Entry, []int) {
	b.t.Helper()
	var l []catalog.Entry
	var sectors []int
	for at := b.s.Super.Head; at != 0; {
		sectors = append(sectors, at)
		if len(sectors) > b.d.Len() {
			b.t.Fatal("the catalog has no end")
		}
		b.works(pack.Guard(func() {
			x, next := catalog.Parse(b.d.Read(at))
			l, at = append(l, x), next
		}))
	}
	return l, sectors
}

// settled: what is held is what all maps reach, and the catalog, which has all volumes; nothing is late, all is
// sure, and the super is the disk's (P18.4).
func (b *box) settled() {
	b.t.Helper()
	l, want := b.entries()
	if !slices.Equal(l, b.s.Entries()) {
		b.t.Fatalf("the catalog has %+v, not %+v", l, b.s.Entries())
	}
	var roots []int
	for _, x := range l {
		roots = append(roots, x.Root)
	}
	b.works(b.s.Heap.Try(func() { want = append(want, walk.Reach(b.s.Maps, roots...)...) }))
	if slices.Sort(want); !slices.Equal(want, b.s.Heap.All()) {
		b.t.Fatalf("%v are held, not %v", b.s.Heap.All(), want)
	}
	if b.s.Heap.Late() != 0 || b.d.Loose() != nil {
		b.t.Fatalf("%d sectors are late, %v are loose", b.s.Heap.Late(), b.d.Loose())
	}
	b.works(pack.Guard(func() {
		if s := super.Read(b.d); s != b.s.Super {
			b.t.Fatalf("the super is %+v, not %+v", s, b.s.Super)
		}
	}))
}

// on: what lies in a sector of a disk.
func on(d *disk.Disk, at int) string {
	s := ""
	pack.Guard(func() { s = d.Read(at) })
	return s
}

// lay: bytes in a sector of a disk, whatever lies there.
func lay(t *testing.T, d *disk.Disk, at int, s string) {
	t.Helper()
	if e := pack.Guard(func() { d.Write(at, s); d.Sync() }); e != api.OK {
		t.Fatalf("Write(%d): %d", at, e)
	}
}

// laySuper: a super in its slot, sure.
func laySuper(t *testing.T, d *disk.Disk, s super.Super) {
	t.Helper()
	if e := pack.Guard(func() { s.Write(d); d.Sync() }); e != api.OK {
		t.Fatalf("Write of %+v: %d", s, e)
	}
}

// spoil: a byte of a sector.
func spoil(d *disk.Disk, at, by int) {
	pack.Guard(func() { d.Spoil(at, by, 0x10) })
}

// cut: the power is cut.
func cut(d *disk.Disk) {
	d.Arm(0)
	pack.Guard(d.Sync)
}

// alike: two disks have the same bytes, and the same ones are sure.
func alike(t *testing.T, what string, d, was *disk.Disk) {
	t.Helper()
	if d.Dead() != was.Dead() {
		t.Errorf("%s: the power is cut: %v", what, d.Dead())
	}
	for _, cuts := range [][]int{nil, whole(d)} {
		c, w := d.Clone(), was.Clone()
		c.Crash(cuts...)
		w.Crash(cuts...)
		for at := range max(c.Len(), w.Len()) {
			if on(c, at) != on(w, at) {
				t.Errorf("%s: sector %d is another one", what, at)
			}
		}
	}
}

// sealed: bytes and the sum behind them, as a sector, by the document's words (layers 11, 12 and 15).
func sealed(text string) string {
	text += noughts(60 - len(text))
	return text + new(pack.Out).Num(uint64(crc.Sum(text)), 4).Bytes()
}

// noise: numbers below n, the same ones of the same seed.
func noise(seed uint64) func(n int) int {
	return func(n int) int {
		seed = seed*6364136223846793005 + 1442695040888963407
		return int((seed >> 33) % uint64(n))
	}
}

// some: so many bytes of noise, none of them 0.
func some(next func(int) int, n int) string {
	b := make([]byte, n)
	for i := range b {
		b[i] = byte(1 + next(255))
	}
	return string(b)
}

// sector: one that begins with a text, and is bytes 0 behind.
func sector(s string) string {
	return s + noughts(64-len(s))
}

func noughts(n int) string {
	return strings.Repeat("\x00", n)
}
