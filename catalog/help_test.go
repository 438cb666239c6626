package catalog_test

import (
	"slices"
	"testing"

	"stereobate/api"
	"stereobate/catalog"
	"stereobate/disk"
	"stereobate/heap"
	"stereobate/pack"
)

// box is a heap, with what it lies in.
type box struct {
	t *testing.T
	d *disk.Disk
	h *heap.Heap
}

func newBox(t *testing.T, n, from int) *box {
	d := disk.New(n)
	return &box{t, d, heap.New(d, from)}
}

// again: a heap in which nothing is held yet, over a disk like that of another one.
func (b *box) again(from int) *box {
	d := b.d.Clone()
	return &box{b.t, d, heap.New(d, from)}
}

// state is all that can be seen of a heap.
type state struct {
	free, late int
	held, refs []int
}

func (b *box) state() state {
	s := state{free: b.h.Free(), late: b.h.Late(), held: b.h.All()}
	for _, at := range s.held {
		s.refs = append(s.refs, b.h.Refs(at))
	}
	return s
}

func (b *box) is(what string, want state) {
	b.t.Helper()
	s := b.state()
	if s.free != want.free || s.late != want.late || !slices.Equal(s.held, want.held) || !slices.Equal(s.refs, want.refs) {
		b.t.Errorf("%s: %+v, not %+v", what, s, want)
	}
}

// counts: how many are free, are late, and which are held.
func (b *box) counts(what string, free, late int, held ...int) {
	b.t.Helper()
	s := b.state()
	if s.free != free || s.late != late || !slices.Equal(s.held, held) {
		b.t.Errorf("%s: %+v, not %d, %d, %v", what, s, free, late, held)
	}
}

// works: a Try that doesn't fail.
func (b *box) works(run func()) {
	b.t.Helper()
	if e := b.h.Try(run); e != api.OK {
		b.t.Errorf("Try: %d", e)
	}
}

// refused: a call that fails so, by itself and in a Guard of a Try that goes on; nothing has changed, within
// and behind it.
func (b *box) refused(want api.Errno, run func()) {
	b.t.Helper()
	was := b.state()
	b.works(func() {
		if e := pack.Guard(run); e != want {
			b.t.Errorf("a call: %d, not %d", e, want)
		}
		b.is("within a Try that goes on", was)
	})
	b.is("behind a Try that went on", was)
	if e := b.h.Try(run); e != want {
		b.t.Errorf("Try: %d, not %d", e, want)
	}
	b.is("behind a Try that failed", was)
}

// save: a Save in a Try of its own that works.
func (b *box) save(l ...catalog.Entry) int {
	b.t.Helper()
	head := 0
	b.works(func() { head = catalog.Save(b.h, l) })
	return head
}

// drop: a Drop in a Try of its own that works.
func (b *box) drop(head int) {
	b.t.Helper()
	b.works(func() { catalog.Drop(b.h, head) })
}

// adopt: outside of a Try: its entries, and its error.
func (b *box) adopt(head int, want api.Errno) []catalog.Entry {
	b.t.Helper()
	var l []catalog.Entry
	if e := pack.Guard(func() { l = catalog.Adopt(b.h, head) }); e != want {
		b.t.Errorf("Adopt(%d): %v, %d, not %d", head, l, e, want)
	}
	return l
}

// has: just these entries lie there from a head on, for a heap that comes anew, whose sectors they then are.
func (b *box) has(head int, l []catalog.Entry, at ...int) {
	b.t.Helper()
	c := b.again(0)
	if got := c.adopt(head, api.OK); !slices.Equal(got, l) {
		b.t.Errorf("Adopt(%d): %+v, not %+v", head, got, l)
	}
	slices.Sort(at)
	c.counts("Adopt", c.d.Len()-len(l), 0, at...)
}

// hold: somebody else holds these sectors, which are free.
func (b *box) hold(l ...int) {
	b.t.Helper()
	for _, at := range l {
		if e := pack.Guard(func() { b.h.Adopt(at) }); e != api.OK {
			b.t.Fatalf("Adopt(%d): %d", at, e)
		}
	}
}

// on: what lies in a sector of the disk.
func (b *box) on(at int) string {
	s := ""
	pack.Guard(func() { s = b.d.Read(at) })
	return s
}

// write: bytes on the disk, whatever the heap has there.
func (b *box) write(at int, s string) {
	b.t.Helper()
	if e := pack.Guard(func() { b.d.Write(at, s) }); e != api.OK {
		b.t.Fatalf("Write(%d): %d", at, e)
	}
}

// spoil: a byte of a sector, and, asked again, it is whole again.
func (b *box) spoil(at, by int) {
	pack.Guard(func() { b.d.Spoil(at, by, 0x10) })
}

// cut: the power is cut.
func (b *box) cut() {
	b.d.Arm(0)
	pack.Guard(b.d.Sync)
}

// whole: there is power again, and all that was written.
func (b *box) whole() {
	b.d.Crash(slices.Repeat([]int{64}, b.d.Len())...)
}

// rising: so many entries of any numbers, whose IDs rise.
func rising(next func(int) int, n int) []catalog.Entry {
	var l []catalog.Entry
	id := uint32(0)
	for range n {
		x := entry(next)
		id += 1 + uint32(next(2000))
		x.ID = id
		l = append(l, x)
	}
	return l
}
