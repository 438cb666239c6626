package space_test

import (
	"slices"
	"strings"
	"testing"

	"stereobate/api"
	"stereobate/block"
	"stereobate/catalog"
	"stereobate/disk"
	"stereobate/pack"
	"stereobate/redo"
	"stereobate/space"
)

const greatest = 1<<63 - 1

// journal is how many sectors the journals have.
const journal = 40

// box is an archive, with what it lies in.
type box struct {
	t *testing.T
	d *disk.Disk
	a *block.Archive
}

// newBox: an archive whose heap has so many sectors.
func newBox(t *testing.T, heap, bits int) *box {
	t.Helper()
	d := disk.New(2 + journal + heap)
	if e := block.Format(d, journal, bits); e != api.OK {
		t.Fatalf("Format: %d", e)
	}
	return over(t, d)
}

// over: the archive of a disk.
func over(t *testing.T, d *disk.Disk) *box {
	t.Helper()
	a, e := block.Mount(d)
	if e != api.OK {
		t.Fatalf("Mount: %d", e)
	}
	return &box{t, d, a}
}

// again: the archive of a copy of the disk, behind a crash.
func (b *box) again() *box {
	b.t.Helper()
	d := b.d.Clone()
	d.Crash()
	return over(b.t, d)
}

func (b *box) works(e api.Errno) {
	b.t.Helper()
	if e != api.OK {
		b.t.Fatalf("a call: %d", e)
	}
}

// do: an op that works.
func (b *box) do(o redo.Op) uint32 {
	b.t.Helper()
	id, e := b.a.Do(o)
	if e != api.OK {
		b.t.Fatalf("Do of kind %d: %d", o.Kind, e)
	}
	return id
}

func (b *box) create(n int) uint32 {
	b.t.Helper()
	return b.do(redo.Op{Kind: redo.Create, N: n})
}

func (b *box) clone(id uint32) uint32 {
	b.t.Helper()
	return b.do(redo.Op{Kind: redo.Clone, ID: id})
}

func (b *box) snapshot(id uint32) uint32 {
	b.t.Helper()
	return b.do(redo.Op{Kind: redo.Snapshot, ID: id})
}

func (b *box) write(id uint32, at int, data string) {
	b.t.Helper()
	b.do(redo.Op{Kind: redo.Write, ID: id, At: at, Data: data})
}

func (b *box) trim(id uint32, at, n int) {
	b.t.Helper()
	b.do(redo.Op{Kind: redo.Trim, ID: id, At: at, N: n})
}

func (b *box) delete(id uint32) {
	b.t.Helper()
	b.do(redo.Op{Kind: redo.Delete, ID: id})
}

// checkpoint: one is made; what holds behind each does.
func (b *box) checkpoint() space.Usage {
	b.t.Helper()
	b.works(b.a.Checkpoint())
	return b.settled("behind a checkpoint")
}

// entry: a volume.
func (b *box) entry(id uint32) catalog.Entry {
	b.t.Helper()
	x, e := b.a.Info(id)
	b.works(e)
	return x
}

// state is what can be seen of an archive.
type state struct {
	entries    []catalog.Entry
	epoch      uint32
	room       int
	free, late int
	held, refs []int
	extents    int
	loose      []int
	dead       bool
	deep       int
}

func (b *box) state() state {
	t := b.a.Store()
	s := state{b.a.Entries(), t.Super.Epoch, b.a.Room(), t.Heap.Free(), t.Heap.Late(), t.Heap.All(), nil, t.Maps.Extents.Count(), b.d.Loose(), b.a.Dead(), t.Heap.Log.Deep()}
	for _, at := range s.held {
		s.refs = append(s.refs, t.Heap.Refs(at))
	}
	return s
}

func (s state) same(o state) bool {
	return slices.Equal(s.entries, o.entries) && s.epoch == o.epoch && s.room == o.room && s.free == o.free && s.late == o.late &&
		slices.Equal(s.held, o.held) && slices.Equal(s.refs, o.refs) && s.extents == o.extents && slices.Equal(s.loose, o.loose) &&
		s.dead == o.dead && s.deep == o.deep
}

// usage: what Of answers; it changes nothing, neither writes nor syncs, and, with an error, tells nothing beside it.
func (b *box) usage() (space.Usage, api.Errno) {
	b.t.Helper()
	was, off := b.state(), b.d.Dead()
	b.d.Arm(0)
	u, e := space.Of(b.a)
	if b.d.Dead() != off {
		b.t.Fatal("the disk was written, or synced")
	}
	b.d.Arm(greatest)
	if s := b.state(); !s.same(was) {
		b.t.Fatalf("something has changed: %+v, not %+v", s, was)
	}
	if e != api.OK && u != (space.Usage{}) {
		b.t.Fatalf("Of: %+v beside %d", u, e)
	}
	return u, e
}

// is: Of answers just this.
func (b *box) is(what string, want space.Usage) {
	b.t.Helper()
	if u, e := b.usage(); e != api.OK || u != want {
		b.t.Fatalf("%s: Of: %+v, %d, not %+v", what, u, e, want)
	}
}

// refused: Of answers that error.
func (b *box) refused(what string, want api.Errno) {
	b.t.Helper()
	if u, e := b.usage(); e != want {
		b.t.Fatalf("%s: Of: %+v, %d, not %d", what, u, e, want)
	}
}

// holds: Of answers what the disk's bytes ask for, and what P24.2 says of any archive.
func (b *box) holds(what string) space.Usage {
	b.t.Helper()
	u := reckon(b.d, b.a)
	b.is(what, u)
	if u.Held+u.Late+u.Free != u.Heap {
		b.t.Fatalf("%s: together they aren't the heap: %+v", what, u)
	}
	return u
}

// settled: and what P24.2 and P24.3 say of one behind a checkpoint.
func (b *box) settled(what string) space.Usage {
	b.t.Helper()
	u := b.holds(what)
	if u.Late != 0 || u.Held != u.Volumes+u.Nodes+u.Extents+u.Parts {
		b.t.Fatalf("%s: something is held that no volume has: %+v", what, u)
	}
	if most := space.Most(u.Volumes, u.Mapped, u.Extents); u.Held > most {
		b.t.Fatalf("%s: more than %d are held: %+v", what, most, u)
	}
	return u
}

// reckon: the usage, from the disk's bytes, built otherwise: each map is taken level by level, as a list of what is
// there, with what is there twice.
func reckon(d *disk.Disk, a *block.Archive) space.Usage {
	h := a.Store().Heap
	u := space.Usage{Heap: d.Len() - 2 - journal, Held: len(h.All()), Late: h.Late(), Free: h.Free(), Volumes: len(a.Entries())}
	nodes, heads := map[int]bool{}, map[int]bool{}
	for _, x := range a.Entries() {
		l := one(x.Root)
		for range 3 {
			var below []int
			for _, at := range l {
				nodes[at] = true
				below = append(below, told(d, at, 2, 8)...)
			}
			l = below
		}
		u.Mapped += len(l)
		for _, at := range l {
			heads[at] = true
		}
	}
	u.Nodes, u.Extents = len(nodes), len(heads)
	for at := range heads {
		u.Parts += len(told(d, at, 1, 4))
	}
	return u
}

// one: a list of a sector; 0 is none.
func one(at int) []int {
	if at == 0 {
		return nil
	}
	return []int{at}
}

// told: the sectors of which a sector of the disk tells, so many from a byte on, but 0.
func told(d *disk.Disk, at, from, n int) []int {
	var l []int
	pack.Guard(func() {
		s := d.Read(at)
		for i := range n {
			l = append(l, one(int(s[from+2*i])<<8|int(s[from+2*i+1]))...)
		}
	})
	return l
}

// spoil: a byte of a sector is another one, or, asked again, as it was.
func (b *box) spoil(at, by int, with byte) {
	b.t.Helper()
	b.works(pack.Guard(func() { b.d.Spoil(at, by, with) }))
}

// lay: bytes in a sector of the disk, sure.
func (b *box) lay(at int, s string) {
	b.t.Helper()
	b.works(pack.Guard(func() { b.d.Write(at, s); b.d.Sync() }))
}

// on: what lies in a sector of the disk.
func (b *box) on(at int) string {
	b.t.Helper()
	s := ""
	b.works(pack.Guard(func() { s = b.d.Read(at) }))
	return s
}

// catalog: where the entries of the last checkpoint lie, one behind the other.
func (b *box) catalog() []int {
	b.t.Helper()
	var l []int
	for at := b.a.Store().Super.Head; at != 0; {
		l = append(l, at)
		s := b.on(at)
		at = int(s[18])<<8 | int(s[19])
	}
	return l
}

// noise: numbers below n, the same ones of the same seed.
func noise(seed uint64) func(n int) int {
	return func(n int) int {
		seed = seed*6364136223846793005 + 1442695040888963407
		return int((seed >> 33) % uint64(n))
	}
}

// some: so many sectors of noise, no byte of which is 0, or a letter, by which other sectors begin.
func some(next func(int) int, sectors int) string {
	b := make([]byte, 64*sectors)
	for i := range b {
		b[i] = byte(128 + next(128))
	}
	return string(b)
}

// of: so many sectors that all have the same bytes.
func of(s string, sectors int) string {
	return strings.Repeat(s, 64*sectors)
}
