package tree_test

import (
	"slices"
	"testing"

	"stereobate/api"
	"stereobate/block"
	"stereobate/catalog"
	"stereobate/disk"
	"stereobate/pack"
	"stereobate/redo"
	"stereobate/tree"
)

const greatest = 1<<63 - 1

// journal is how many sectors the journals have.
const journal = 20

// box is an archive, with what it lies in, and whose copy each volume is, as far as the test has seen to it.
type box struct {
	t      *testing.T
	d      *disk.Disk
	a      *block.Archive
	copies map[uint32]uint32
}

// newBox: an archive whose heap has so many sectors.
func newBox(t *testing.T, heap int) *box {
	t.Helper()
	d := disk.New(2 + journal + heap)
	if e := block.Format(d, journal, 256); e != api.OK {
		t.Fatalf("Format: %d", e)
	}
	return over(t, d)
}

// over: the archive of a disk.
func over(t *testing.T, d *disk.Disk) *box {
	t.Helper()
	a, e := block.Mount(d)
	if e != api.OK {
		t.Fatalf("Mount: %d", e)
	}
	b := &box{t, d, a, map[uint32]uint32{}}
	for _, x := range a.Entries() {
		b.copies[x.ID] = x.Parent
	}
	return b
}

// again: the archive of a copy of the disk, behind a crash.
func (b *box) again() *box {
	b.t.Helper()
	d := b.d.Clone()
	d.Crash()
	return over(b.t, d)
}

func (b *box) works(e api.Errno) {
	b.t.Helper()
	if e != api.OK {
		b.t.Fatalf("a call: %d", e)
	}
}

// do: an op that works.
func (b *box) do(o redo.Op) uint32 {
	b.t.Helper()
	id, e := b.a.Do(o)
	if e != api.OK {
		b.t.Fatalf("Do of kind %d: %d", o.Kind, e)
	}
	if id != 0 {
		b.copies[id] = o.ID
	}
	return id
}

func (b *box) create() uint32 {
	b.t.Helper()
	return b.do(redo.Op{Kind: redo.Create, N: 5})
}

func (b *box) clone(id uint32) uint32 {
	b.t.Helper()
	return b.do(redo.Op{Kind: redo.Clone, ID: id})
}

func (b *box) snapshot(id uint32) uint32 {
	b.t.Helper()
	return b.do(redo.Op{Kind: redo.Snapshot, ID: id})
}

// delete: a volume goes: what Prune is handed.
func (b *box) delete(id uint32) api.Errno {
	_, e := b.a.Do(redo.Op{Kind: redo.Delete, ID: id})
	if e == api.OK {
		delete(b.copies, id)
	}
	return e
}

// gone: volumes go.
func (b *box) gone(ids ...uint32) {
	b.t.Helper()
	for _, id := range ids {
		b.works(b.delete(id))
	}
}

// family: 1 with 3 and 6 below it, 4 below 3, 5 below 4; 2 with 7 below it.
func family(t *testing.T) *box {
	t.Helper()
	b := newBox(t, 200)
	b.create()
	b.create()
	b.snapshot(1)
	b.clone(3)
	b.snapshot(4)
	b.clone(1)
	b.clone(2)
	return b
}

// state is what can be seen of an archive.
type state struct {
	entries          []catalog.Entry
	epoch            uint32
	room, free, late int
	held, loose      []int
	dead             bool
}

func (b *box) state() state {
	t := b.a.Store()
	return state{b.a.Entries(), t.Super.Epoch, b.a.Room(), t.Heap.Free(), t.Heap.Late(), t.Heap.All(), b.d.Loose(), b.a.Dead()}
}

func (s state) same(o state) bool {
	return slices.Equal(s.entries, o.entries) && s.epoch == o.epoch && s.room == o.room && s.free == o.free && s.late == o.late &&
		slices.Equal(s.held, o.held) && slices.Equal(s.loose, o.loose) && s.dead == o.dead
}

// quiet: what runs changes nothing of an archive, and neither writes nor syncs.
func (b *box) quiet(run func()) {
	b.t.Helper()
	was, off := b.state(), b.d.Dead()
	b.d.Arm(0)
	run()
	if b.d.Dead() != off {
		b.t.Fatal("the disk was written, or synced")
	}
	b.d.Arm(greatest)
	if s := b.state(); !s.same(was) {
		b.t.Fatalf("something has changed: %+v, not %+v", s, was)
	}
}

// path: from the top down to a volume, built otherwise than a Line.
func (b *box) path(id uint32) []uint32 {
	up := b.copies[id]
	if _, ok := b.copies[up]; !ok {
		return []uint32{id}
	}
	return append(b.path(up), id)
}

// paths: all volumes', in the order of All: of two of which one is the other's beginning that one is the first, of
// others the one that turns to the lesser kid.
func (b *box) paths() [][]uint32 {
	var l [][]uint32
	for id := range b.copies {
		l = append(l, b.path(id))
	}
	slices.SortFunc(l, slices.Compare[[]uint32])
	return l
}

// holds: all calls but Prune answer what the copies ask for.
func (b *box) holds(what string) {
	b.t.Helper()
	b.quiet(func() {
		b.t.Helper()
		var all []tree.Node
		kids := map[uint32][]uint32{}
		for _, p := range b.paths() {
			id := p[len(p)-1]
			all = append(all, tree.Node{ID: id, Depth: len(p) - 1})
			up := uint32(0)
			if len(p) > 1 {
				up = p[len(p)-2]
			}
			kids[up] = append(kids[up], id)
			b.line(what, id, p)
		}
		b.all(what, all...)
		for id := range uint32(60) {
			b.kids(what, id, kids[id]...)
			if _, ok := b.copies[id]; !ok {
				b.none(what, id)
			}
		}
	})
}

// line: what Line answers of a volume, from the top down, and Under of it and of any number.
func (b *box) line(what string, id uint32, path []uint32) {
	b.t.Helper()
	l, e := tree.Line(b.a, id)
	slices.Reverse(l)
	if e != api.OK || !slices.Equal(l, path) {
		b.t.Fatalf("%s: Line(%d): %v, %d, not %v (reversed)", what, id, l, e, path)
	}
	for top := range uint32(60) {
		if tree.Under(b.a, id, top) != slices.Contains(path, top) {
			b.t.Fatalf("%s: Under(%d, %d) of %v", what, id, top, path)
		}
	}
	for _, top := range path {
		if !tree.Under(b.a, id, top) {
			b.t.Fatalf("%s: Under(%d, %d) of %v", what, id, top, path)
		}
	}
}

// none: what is answered of a number that no volume has.
func (b *box) none(what string, id uint32) {
	b.t.Helper()
	if l, e := tree.Line(b.a, id); e != api.ErrNone || len(l) != 0 {
		b.t.Fatalf("%s: Line(%d): %v, %d", what, id, l, e)
	}
	for _, top := range []uint32{id, 0, 1, 2, 1<<32 - 1} {
		if tree.Under(b.a, id, top) {
			b.t.Fatalf("%s: Under(%d, %d)", what, id, top)
		}
	}
	if n, e := tree.Prune(b.a, id, func(uint32) api.Errno { b.t.Error("it is dropped"); return api.OK }); n != 0 || e != api.ErrNone {
		b.t.Fatalf("%s: Prune(%d): %d, %d", what, id, n, e)
	}
}

// kids: what Kids answers.
func (b *box) kids(what string, id uint32, want ...uint32) {
	b.t.Helper()
	if l := tree.Kids(b.a, id); !slices.Equal(l, want) {
		b.t.Fatalf("%s: Kids(%d): %v, not %v", what, id, l, want)
	}
}

// all: what All answers.
func (b *box) all(what string, want ...tree.Node) {
	b.t.Helper()
	if l := tree.All(b.a); !slices.Equal(l, want) {
		b.t.Fatalf("%s: All: %v, not %v", what, l, want)
	}
}

// prunes: Prune by a drop that answers an error the which-th time (none: below 0) drops these, one behind the other,
// and answers how many, and that error.
func (b *box) prunes(id uint32, which int, otherwise api.Errno, want ...uint32) {
	b.t.Helper()
	var asked []uint32
	n, e := tree.Prune(b.a, id, func(id uint32) api.Errno {
		asked = append(asked, id)
		if len(asked)-1 == which {
			return otherwise
		}
		return b.delete(id)
	})
	if which < 0 {
		otherwise, which = api.OK, len(want)
	}
	if n != which || e != otherwise || !slices.Equal(asked, want) {
		b.t.Fatalf("Prune(%d): %d, %d, of %v, not %d, %d, of %v", id, n, e, asked, which, otherwise, want)
	}
}

// lay: bytes in a sector of the disk, sure.
func (b *box) lay(at int, s string) {
	b.t.Helper()
	b.works(pack.Guard(func() { b.d.Write(at, s); b.d.Sync() }))
}

// noise: numbers below n, the same ones of the same seed.
func noise(seed uint64) func(n int) int {
	return func(n int) int {
		seed = seed*6364136223846793005 + 1442695040888963407
		return int((seed >> 33) % uint64(n))
	}
}
