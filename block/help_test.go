package block_test

import (
	"slices"
	"strings"
	"testing"

	"stereobate/api"
	"stereobate/block"
	"stereobate/catalog"
	"stereobate/disk"
	"stereobate/pack"
	"stereobate/redo"
	"stereobate/ring"
	"stereobate/sha"
	"stereobate/super"
	"stereobate/walk"
)

// box is an archive, with what it lies in.
type box struct {
	t       *testing.T
	d       *disk.Disk
	a       *block.Archive
	journal int
}

// formatted: a disk of which the heap has so many sectors, behind a journal.
func formatted(t *testing.T, heap, journal, bits int) *disk.Disk {
	t.Helper()
	d := disk.New(2 + journal + heap)
	if e := block.Format(d, journal, bits); e != api.OK {
		t.Fatalf("Format of %d sectors: %d", d.Len(), e)
	}
	return d
}

// newBox: the archive of such a disk.
func newBox(t *testing.T, heap, journal, bits int) *box {
	t.Helper()
	return over(t, formatted(t, heap, journal, bits))
}

// over: the archive of a disk.
func over(t *testing.T, d *disk.Disk) *box {
	t.Helper()
	a, e := block.Mount(d)
	if e != api.OK || a == nil {
		t.Fatalf("Mount: %d", e)
	}
	b := &box{t, d, a, a.Store().Super.Journal}
	b.fresh()
	return b
}

// fails: Mount of a disk fails so.
func fails(t *testing.T, what string, d *disk.Disk, want api.Errno) {
	t.Helper()
	if a, e := block.Mount(d); e != want || a != nil {
		t.Errorf("%s: Mount: %v, %d, not %d", what, a, e, want)
	}
}

// again: the archive of a copy of the disk, behind a crash.
func (b *box) again(cuts ...int) *box {
	b.t.Helper()
	d := b.d.Clone()
	d.Crash(cuts...)
	return over(b.t, d)
}

// whole: cuts by which nothing is torn.
func whole(d *disk.Disk) []int {
	return slices.Repeat([]int{64}, d.Len())
}

// works: a call without an error.
func (b *box) works(e api.Errno) {
	b.t.Helper()
	if e != api.OK {
		b.t.Fatalf("a call: %d", e)
	}
}

// do: an op that works, and makes no volume.
func (b *box) do(o redo.Op) {
	b.t.Helper()
	if id := b.made(o); id != 0 {
		b.t.Fatalf("Do of kind %d: %d", o.Kind, id)
	}
}

// made: the number of the volume that an op makes.
func (b *box) made(o redo.Op) uint32 {
	b.t.Helper()
	id, e := b.a.Do(o)
	if e != api.OK {
		b.t.Fatalf("Do of kind %d: %d", o.Kind, e)
	}
	return id
}

// create: a volume of so many sectors.
func (b *box) create(n int) uint32 {
	b.t.Helper()
	return b.made(redo.Op{Kind: redo.Create, N: n})
}

// fill: sectors of noise in a volume.
func (b *box) fill(id uint32, at, n int, seed uint64) {
	b.t.Helper()
	b.do(written(id, at, some(noise(seed), n*64)))
}

func written(id uint32, at int, data string) redo.Op {
	return redo.Op{Kind: redo.Write, ID: id, At: at, Data: data}
}

func (b *box) epoch() uint32 {
	return b.a.Store().Super.Epoch
}

// view is all that is asked of volumes, but their store.
type view struct {
	entries []catalog.Entry // without their roots
	texts   []string
	sums    []sha.Sum
	next    uint32
}

func (b *box) view() view {
	b.t.Helper()
	v := view{entries: b.a.Entries(), next: b.a.Store().Next()}
	for i, x := range v.entries {
		s, e := b.a.Read(x.ID, 0, x.Size)
		b.works(e)
		sum, e := b.a.Sum(x.ID)
		b.works(e)
		if y, e := b.a.Info(x.ID); e != api.OK || y != x {
			b.t.Fatalf("Info(%d): %+v, %d, not %+v", x.ID, y, e, x)
		}
		v.texts, v.sums = append(v.texts, s), append(v.sums, sum)
		v.entries[i].Root = 0
	}
	return v
}

// differs: in what two views are others; "": in nothing.
func (v view) differs(o view) string {
	switch {
	case v.next != o.next:
		return "the next number"
	case !slices.Equal(v.entries, o.entries):
		return "the entries"
	case !slices.Equal(v.texts, o.texts):
		return "the sectors"
	case !slices.Equal(v.sums, o.sums):
		return "the digests"
	}
	return ""
}

// is: the volumes are as a view says.
func (b *box) is(what string, want view) {
	b.t.Helper()
	if v := b.view(); v.differs(want) != "" {
		b.t.Fatalf("%s: %s: %+v, %d, not %+v, %d", what, v.differs(want), v.entries, v.next, want.entries, want.next)
	}
}

// one: the volumes are as one of some views says: as the last of these, if more do.
func (b *box) one(what string, views []view) int {
	b.t.Helper()
	v := b.view()
	for i, want := range slices.Backward(views) {
		if v.differs(want) == "" {
			return i
		}
	}
	b.t.Fatalf("%s: as none of %d views: %+v, %d", what, len(views), v.entries, v.next)
	return 0
}

// state is all that can be seen of an archive but what its volumes read.
type state struct {
	entries     []catalog.Entry
	next, epoch uint32
	room        int
	free, late  int
	held, refs  []int
	extents     int
	dead        bool
}

func (b *box) state() state {
	t := b.a.Store()
	s := state{b.a.Entries(), t.Next(), t.Super.Epoch, b.a.Room(), t.Heap.Free(), t.Heap.Late(), t.Heap.All(), nil, t.Maps.Extents.Count(), b.a.Dead()}
	for _, at := range s.held {
		s.refs = append(s.refs, t.Heap.Refs(at))
	}
	return s
}

// same: an archive is in a state.
func (b *box) same(what string, want state) {
	b.t.Helper()
	s := b.state()
	if !slices.Equal(s.entries, want.entries) || !slices.Equal(s.held, want.held) || !slices.Equal(s.refs, want.refs) ||
		s.next != want.next || s.epoch != want.epoch || s.room != want.room || s.free != want.free ||
		s.late != want.late || s.extents != want.extents || s.dead != want.dead {
		b.t.Fatalf("%s: %+v, not %+v", what, s, want)
	}
}

// refused: a call that answers so, and changes nothing: neither volumes nor the disk, but for sectors that are free.
func (b *box) refused(what string, want api.Errno, run func() api.Errno) {
	b.t.Helper()
	was, read, d := b.state(), b.view(), b.d.Clone()
	if e := run(); e != want {
		b.t.Fatalf("%s: %d, not %d", what, e, want)
	}
	b.same(what, was)
	b.is(what, read)
	kept := was.held
	for at := range 2 + b.journal {
		kept = append(kept, at)
	}
	alike(b.t, what, b.d, d, kept...)
}

// catalog: the entries of the last checkpoint on the disk, and where they lie.
func (b *box) catalog() ([]catalog.Entry, []int) {
	b.t.Helper()
	var l []catalog.Entry
	var sectors []int
	for at := b.a.Store().Super.Head; at != 0; {
		sectors = append(sectors, at)
		if len(sectors) > b.d.Len() {
			b.t.Fatal("the catalog has no end")
		}
		b.works(pack.Guard(func() {
			x, next := catalog.Parse(b.d.Read(at))
			l, at = append(l, x), next
		}))
	}
	return l, sectors
}

// reach: the sectors that all maps reach.
func (b *box) reach() []int {
	b.t.Helper()
	var roots, l []int
	for _, x := range b.a.Entries() {
		roots = append(roots, x.Root)
	}
	t := b.a.Store()
	b.works(t.Heap.Try(func() { l = walk.Reach(t.Maps, roots...) }))
	return l
}

// fresh: a checkpoint was made just now, and nothing was written since.
func (b *box) fresh() {
	b.t.Helper()
	b.settled()
	if b.d.Loose() != nil {
		b.t.Fatalf("%v are loose", b.d.Loose())
	}
}

// settled: a checkpoint was made just now: the journal has room for all frames, and none stands there; what is
// held is what all maps reach, and the catalog, which has all volumes (P18.4).
func (b *box) settled() {
	b.t.Helper()
	l, want := b.catalog()
	if !slices.Equal(l, b.a.Entries()) {
		b.t.Fatalf("the catalog has %+v, not %+v", l, b.a.Entries())
	}
	heap := b.a.Store().Heap
	want = append(want, b.reach()...)
	if slices.Sort(want); !slices.Equal(want, heap.All()) {
		b.t.Fatalf("%v are held, not %v", heap.All(), want)
	}
	if heap.Late() != 0 {
		b.t.Fatalf("%d sectors are late", heap.Late())
	}
	b.works(pack.Guard(func() {
		if s := super.Read(b.d); s != b.a.Store().Super {
			b.t.Fatalf("the super is %+v, not %+v", s, b.a.Store().Super)
		}
	}))
	if b.a.Room() != b.journal || b.a.Dead() {
		b.t.Fatalf("Room: %d of %d; Dead: %v", b.a.Room(), b.journal, b.a.Dead())
	}
	b.stands()
}

// stands: just these ops stand in the journal.
func (b *box) stands(l ...redo.Op) {
	b.t.Helper()
	var got []string
	s := b.a.Store().Super
	b.works(pack.Guard(func() { got = ring.New(b.d, 2, s.Journal, s.Epoch).Scan() }))
	room := s.Journal
	var want []string
	for _, o := range l {
		want = append(want, o.Bytes())
		room -= ring.Cost(len(o.Bytes()))
	}
	if !slices.Equal(got, want) {
		b.t.Fatalf("%q stand in the journal, not %q", got, want)
	}
	if b.a.Room() != room {
		b.t.Fatalf("Room: %d, not %d", b.a.Room(), room)
	}
}

// on: what lies in a sector of a disk.
func on(d *disk.Disk, at int) string {
	s := ""
	pack.Guard(func() { s = d.Read(at) })
	return s
}

// lay: bytes in a sector of a disk, whatever lies there; sure.
func lay(t *testing.T, d *disk.Disk, at int, s string) {
	t.Helper()
	if e := pack.Guard(func() { d.Write(at, s); d.Sync() }); e != api.OK {
		t.Fatalf("Write(%d): %d", at, e)
	}
}

// laySuper: a super in its slot, sure.
func laySuper(t *testing.T, d *disk.Disk, s super.Super) {
	t.Helper()
	if e := pack.Guard(func() { s.Write(d); d.Sync() }); e != api.OK {
		t.Fatalf("Write of %+v: %d", s, e)
	}
}

// layRecords: records in the journal of a disk, of an epoch; sure.
func layRecords(t *testing.T, d *disk.Disk, journal int, epoch uint32, l ...string) {
	t.Helper()
	r := ring.New(d, 2, journal, epoch)
	for _, s := range l {
		if e := pack.Guard(func() {
			if !r.Append(s) {
				t.Fatal("no room in the journal")
			}
			d.Sync()
		}); e != api.OK {
			t.Fatalf("Append: %d", e)
		}
	}
}

// spoil: a byte of a sector is another one, or, asked again, as it was.
func spoil(d *disk.Disk, at int) {
	pack.Guard(func() { d.Spoil(at, 9, 0x10) })
}

// alike: sectors of two disks, of none named all, have the same bytes, and the same ones are sure.
func alike(t *testing.T, what string, d, was *disk.Disk, sectors ...int) {
	t.Helper()
	if sectors == nil {
		for at := range max(d.Len(), was.Len()) {
			sectors = append(sectors, at)
		}
	}
	for _, cuts := range [][]int{nil, whole(d)} {
		c, w := d.Clone(), was.Clone()
		c.Crash(cuts...)
		w.Crash(cuts...)
		for _, at := range sectors {
			if on(c, at) != on(w, at) {
				t.Errorf("%s: sector %d is another one", what, at)
			}
		}
	}
}

// noise: numbers below n, the same ones of the same seed.
func noise(seed uint64) func(n int) int {
	return func(n int) int {
		seed = seed*6364136223846793005 + 1442695040888963407
		return int((seed >> 33) % uint64(n))
	}
}

// some: so many bytes of noise, none of them 0.
func some(next func(int) int, n int) string {
	b := make([]byte, n)
	for i := range b {
		b[i] = byte(1 + next(255))
	}
	return string(b)
}

// sector: one that begins with a text, and is bytes 0 behind.
func sector(s string) string {
	return s + noughts(64-len(s))
}

func noughts(n int) string {
	return strings.Repeat("\x00", n)
}
