package store_test

import (
	"slices"
	"testing"

	"stereobate/api"
	"stereobate/disk"
	"stereobate/pack"
	"stereobate/super"
)

// P18.1: the document's example.
func TestExample(t *testing.T) {
	b := newBox(t, 40, 4, 256)
	if len(b.s.Entries()) != 0 || b.s.Super.Epoch != 1 {
		t.Errorf("Open: %+v, %+v", b.s.Entries(), b.s.Super)
	}
	b.made(b.s.Create(7))
	b.commit()
	if b.s.Super.Epoch != 2 {
		t.Errorf("Commit: %+v", b.s.Super)
	}
}

// P18.1: the super of each Commit: its epoch, its catalog's head, the next number; its slot; volumes are made in
// its epoch from then on. The entries take the least free sectors, while those ahead are held yet.
func TestCommit(t *testing.T) {
	b := newBox(t, 60, 4, 77)
	elder := []string{noughts(64), on(b.d, 1)}
	for i, c := range []struct {
		volumes int // that are made ahead of it
		head    int
		born    []uint32
	}{
		{0, 0, nil},
		{3, 8, []uint32{2, 2, 2}},     // in 6 to 8
		{0, 11, []uint32{2, 2, 2}},    // in 9 to 11
		{1, 12, []uint32{2, 2, 2, 4}}, // in 6 to 8, and behind the three ahead
		{0, 13, []uint32{2, 2, 2, 4}},
	} {
		for range c.volumes {
			b.made(b.s.Create(5))
		}
		b.commit()
		want := super.Super{Epoch: uint32(i + 2), Journal: 4, Bits: 77, Head: c.head, Next: uint32(len(c.born) + 1)}
		if b.s.Super != want {
			t.Errorf("Commit: %+v, not %+v", b.s.Super, want)
		}
		var born []uint32
		for _, x := range b.s.Entries() {
			born = append(born, x.Born)
		}
		if !slices.Equal(born, c.born) || b.s.Next() != want.Next {
			t.Errorf("Commit %d: volumes of %v, Next %d", i, born, b.s.Next())
		}
		slot := i % 2
		if on(b.d, 1-slot) != elder[1-slot] || on(b.d, slot) == elder[slot] {
			t.Errorf("Commit %d: another slot than %d was written", i, slot)
		}
		elder[slot] = on(b.d, slot)
	}
}

// P18.1: what was done with volumes ahead of it is sure; what is done behind it isn't.
func TestCommitKeeps(t *testing.T) {
	b := newBox(t, 300, 4, 256)
	b.fill(b.made(b.s.Create(40)), 3, 20, 1)
	b.made(b.s.Snapshot(1))
	b.fill(1, 5, 6, 2)
	b.works(b.s.Resize(1, 30))
	b.works(b.s.Delete(b.made(b.s.Clone(2))))
	b.commit()
	was, has := b.view(), b.held()
	a := b.again()
	a.is("behind a Commit", was)
	a.holds("behind a Commit", has)
	a.settled()
	b.fill(1, 0, 30, 3)
	b.works(b.s.Delete(2))
	b.made(b.s.Create(9))
	for _, cuts := range [][]int{nil, whole(b.d)} {
		a = b.again(cuts...)
		a.is("behind a Commit, and calls", was)
		a.holds("behind a Commit, and calls", has)
	}
}

// P18.1: the catalog's sectors, a Sync, the super, a Sync: each call of the disk may be the one within which the
// power is cut. The super isn't written ahead of a Sync.
func TestCommitCut(t *testing.T) {
	for volumes := range 5 {
		d := formatted(t, 100, 4, 256)
		calls := volumes + 3
		for n := range calls + 1 {
			b := over(t, d.Clone())
			was := b.view()
			for i := range volumes {
				b.fill(b.made(b.s.Create(8)), 1, 3, uint64(i))
			}
			now := b.view()
			b.d.Arm(n)
			e := pack.Guard(b.s.Commit)
			if n == calls {
				if e != api.OK || b.d.Dead() {
					t.Fatalf("Commit of %d volumes with %d calls: %d", volumes, n, e)
				}
				b.again().is("Commit", now)
				continue
			}
			if e != api.ErrCut || !b.d.Dead() {
				t.Fatalf("Commit of %d volumes with %d calls: %d", volumes, n, e)
			}
			b.again().is("a Commit that was cut, and all lost", was)
			if n < calls-1 {
				b.again(whole(b.d)...).is("a Commit that was cut ahead of its super", was)
			} else {
				b.again(whole(b.d)...).is("a Commit that was cut behind its super", now)
			}
		}
	}
}

// P18.1: without power.
func TestCommitDead(t *testing.T) {
	for volumes := range 3 {
		b := newBox(t, 60, 4, 256)
		for range volumes {
			b.made(b.s.Create(5))
		}
		cut(b.d)
		if e := pack.Guard(b.s.Commit); e != api.ErrCut {
			t.Errorf("Commit of %d volumes: %d", volumes, e)
		}
	}
}

// fails: Commit fails so, and the disk is an archive as it was.
func (b *box) fails(what string, want api.Errno) {
	b.t.Helper()
	was := over(b.t, b.d.Clone()).view()
	if e := pack.Guard(b.s.Commit); e != want {
		b.t.Errorf("%s: Commit: %d, not %d", what, e, want)
	}
	b.again().is(what, was)
	b.again(whole(b.d)...).is(what, was)
}

// two: a store of two volumes, and where the entries lie of its last checkpoint.
func two(t *testing.T) (*box, []int) {
	b := newBox(t, 60, 4, 256)
	b.made(b.s.Create(5))
	b.made(b.s.Create(6))
	b.commit()
	_, sectors := b.entries()
	return b, sectors
}

// P18.1: an entry of the catalog ahead that is spoilt: Drop's error, behind Save's, and ahead of the Sync.
func TestCommitSpoilt(t *testing.T) {
	for which := range 2 {
		for calls, want := range []api.Errno{api.ErrCut, api.ErrCut, api.ErrSum, api.ErrSum} {
			b, sectors := two(t)
			spoil(b.d, sectors[which], 7)
			b.d.Arm(calls)
			if e := pack.Guard(b.s.Commit); e != want || b.d.Dead() != (want == api.ErrCut) {
				t.Errorf("Commit with %d calls: %d, not %d", calls, e, want)
			}
			spoil(b.d, sectors[which], 7)
			a := b.again(whole(b.d)...)
			if len(a.s.Entries()) != 2 || a.s.Super.Epoch != 2 {
				t.Errorf("Commit that failed: %+v, %+v", a.s.Entries(), a.s.Super)
			}
		}
	}
}

// P18.1: no room for a catalog, where there are more volumes than can be made: Save's error, ahead of Drop's.
func TestCommitNoRoom(t *testing.T) {
	d := laidIn(t, 33, first, 256, many(17)...)
	over(t, d.Clone()).fails("no room", api.ErrSpace)
	b := over(t, d.Clone())
	spoil(b.d, first, 9)
	if e := pack.Guard(b.s.Commit); e != api.ErrSpace {
		t.Errorf("Commit: %d", e)
	}
	b = over(t, d)
	b.works(b.s.Delete(9))
	b.commit()
}

// P18.1: behind the last epoch there is none: layer 7's error, behind those ahead of it.
func TestCommitLastEpoch(t *testing.T) {
	at := func(epoch uint32) *box {
		d := formatted(t, 60, 4, 256)
		laySuper(t, d, super.Super{Epoch: epoch, Journal: 4, Bits: 256, Next: 5})
		return over(t, d)
	}
	b := at(1<<32 - 2)
	b.made(b.s.Create(3))
	b.commit()
	if x := b.s.Entries()[0]; b.s.Super.Epoch != 1<<32-1 || x.Born != 1<<32-2 || x.ID != 5 {
		t.Errorf("Commit: %+v, %+v", b.s.Super, x)
	}
	b.fails("the last epoch", api.ErrArg)
	for calls, want := range []api.Errno{api.ErrCut, api.ErrCut, api.ErrArg} {
		b = at(1<<32 - 1)
		b.made(b.s.Create(3))
		b.d.Arm(calls)
		if e := pack.Guard(b.s.Commit); e != want {
			t.Errorf("Commit with %d calls: %d, not %d", calls, e, want)
		}
	}
}

// P18.1: behind the last number of a volume comes one that is nobody's.
func TestCommitLastNumber(t *testing.T) {
	d := formatted(t, 60, 4, 256)
	laySuper(t, d, super.Super{Epoch: 8, Journal: 4, Bits: 256, Next: 1<<32 - 1})
	b := over(t, d)
	if id := b.made(b.s.Create(3)); id != 1<<32-1 {
		t.Errorf("Create: %d", id)
	}
	b.commit()
	if b.s.Super.Next != 1 || b.again().s.Next() != 1 {
		t.Errorf("Commit: %+v", b.s.Super)
	}
}

// P18.1: it takes sectors that somebody told the heap to keep.
func TestCommitKeep(t *testing.T) {
	b := newBox(t, 32, 4, 256)
	b.made(b.s.Create(3))
	b.works(b.s.Heap.Try(func() { b.s.Heap.Keep(100) }))
	b.commit()
	b.works(b.s.Heap.Try(func() { b.s.Heap.Put("") }))
}

// P18.1: what a Try undid isn't in it.
func TestCommitUndone(t *testing.T) {
	b := newBox(t, 100, 4, 256)
	b.fill(b.made(b.s.Create(20)), 0, 9, 1)
	b.commit()
	was := b.view()
	if e := b.s.Heap.Try(func() {
		b.made(b.s.Snapshot(1))
		b.works(b.s.Trim(1, 0, 20))
		pack.Fail(api.ErrBase)
	}); e != api.ErrBase {
		t.Fatalf("Try: %d", e)
	}
	b.commit()
	b.is("undone", was)
	b.again().is("undone", was)
}

// P18.1: the last super is one that may be asked from outside, and no call but Commit changes it.
func TestSuper(t *testing.T) {
	b := newBox(t, 100, 4, 256)
	b.made(b.s.Create(20))
	b.commit()
	was, bytes := b.s.Super, []string{on(b.d, 0), on(b.d, 1)}
	b.fill(1, 0, 20, 1)
	b.made(b.s.Clone(1))
	b.works(b.s.Delete(1))
	if b.s.Super != was || on(b.d, 0) != bytes[0] || on(b.d, 1) != bytes[1] {
		t.Errorf("calls changed the super: %+v, not %+v", b.s.Super, was)
	}
}

// K4: the same calls make the same disk.
func TestSame(t *testing.T) {
	run := func() *disk.Disk {
		p := newPlay(t, 5, 300, 4, 256, map[string]int{})
		for range 60 {
			p.one()
			if p.next(4) == 0 {
				p.commit()
			}
		}
		return p.d
	}
	alike(t, "the same calls", run(), run())
}
