package core_test

import (
	"slices"
	"testing"

	"stereobate/api"
	"stereobate/catalog"
	"stereobate/core"
	"stereobate/disk"
	"stereobate/heap"
	"stereobate/pack"
	"stereobate/sha"
)

// P16.1: the document's example.
func TestExample(t *testing.T) {
	b := newBox(t, 100, 2, 256)
	if id, e := b.c.Create(5); id != 1 || e != api.OK {
		t.Errorf("Create: %d, %d", id, e)
	}
	b.works(b.c.Write(1, 4, sector("x")))
	if id, e := b.c.Snapshot(1); id != 2 || e != api.OK {
		t.Errorf("Snapshot: %d, %d", id, e)
	}
	b.refused("Write", api.ErrOnly, func() api.Errno { return b.c.Write(2, 4, sector("y")) })
	b.has("the snapshot", 2, noughts(256)+sector("x"))
}

// P16.1: no volumes; the heap, and maps of its own there.
func TestNew(t *testing.T) {
	h := heap.New(disk.New(50), 2)
	c := core.New(h, 256, 7)
	if c.Heap != h || c.Maps == nil || c.Maps.Heap != h || c.Maps.Extents == nil || c.Maps.Extents.Count() != 0 {
		t.Error("New: another heap, or none")
	}
	if len(c.Entries()) != 0 || c.Next() != 7 || h.Held() != 0 || h.Free() != 48 {
		t.Errorf("New: %v, %d, %d", c.Entries(), c.Next(), h.Held())
	}
	if n := core.New(h, 256, 0).Next(); n != 1 {
		t.Errorf("Next of 0: %d", n)
	}
}

// P16.1: addresses have so many bits, below 1 as 1, above 256 as 256.
func TestBits(t *testing.T) {
	next := noise(3)
	var l []string // two with one first bit, two with another one
	for len(l) < 4 {
		s := some(next, 256)
		if int(sha.Of(s)[0]>>7) == len(l)/2 {
			l = append(l, s)
		}
	}
	for _, bits := range []int{least, -1, 0, 1} {
		b := newBox(t, 200, 2, bits)
		id := b.made(b.c.Create(40))
		b.works(b.c.Write(id, 0, l[0]))
		b.works(b.c.Write(id, 4, l[2]))
		b.refused("Write", api.ErrClash, func() api.Errno { return b.c.Write(id, 8, l[1]) })
		b.refused("Write", api.ErrClash, func() api.Errno { return b.c.Write(id, 8, l[3]) })
		b.works(b.c.Write(id, 8, l[0]))
	}
	for _, bits := range []int{2, 8, 256, 257, most} {
		b := newBox(t, 2000, 2, bits)
		id, clash := b.made(b.c.Create(2000)), false
		for i := range 100 {
			clash = clash || b.c.Write(id, 4*i, some(next, 256)) != api.OK
		}
		if clash != (bits < 256) {
			t.Errorf("addresses of %d bits: %v", bits, clash)
		}
	}
}

// P16.1: Create of each size, at the edges of what may be.
func TestCreate(t *testing.T) {
	for _, size := range []int{least, -1, 0, 2049, 2050, 1 << 32, 1<<32 + 1, most} {
		b := newBox(t, 50, 2, 256)
		b.refused("Create", api.ErrArg, func() api.Errno {
			id, e := b.c.Create(size)
			if id != 0 {
				t.Errorf("Create(%d): %d", size, id)
			}
			return e
		})
	}
	b := newBox(t, 50, 2, 256)
	b.c.SetEpoch(9)
	var want []catalog.Entry
	for i, size := range []int{1, 2, 4, 5, 31, 32, 33, 2047, 2048} {
		id, e := b.c.Create(size)
		if id != uint32(i+1) || e != api.OK {
			t.Errorf("Create(%d): %d, %d", size, id, e)
		}
		want = append(want, catalog.Entry{ID: id, Size: size, Born: 9})
		b.has("a new one", id, noughts(64*size))
	}
	if !slices.Equal(b.c.Entries(), want) || b.h.Held() != 0 || b.h.Free() != 48 {
		t.Errorf("%+v, %d are held", b.c.Entries(), b.h.Held())
	}
}

// P16.1: numbers are given one behind the other, and never again, whoever went, whatever was refused.
func TestNumbers(t *testing.T) {
	b := newBox(t, 100, 2, 256)
	for want := uint32(1); want < 60; {
		if n := b.c.Next(); n != want {
			t.Errorf("Next: %d, not %d", n, want)
		}
		b.c.Create(0)
		b.c.Snapshot(want)
		b.c.Clone(0)
		for _, make := range []func() (uint32, api.Errno){
			func() (uint32, api.Errno) { return b.c.Create(3) },
			func() (uint32, api.Errno) { return b.c.Snapshot(want - 1) },
			func() (uint32, api.Errno) { return b.c.Clone(want - 1) },
		} {
			if id := b.made(make()); id != want {
				t.Errorf("made: %d, not %d", id, want)
			}
			want++
		}
		if l := b.c.Entries(); len(l) > 10 {
			for _, x := range l[3:] {
				b.works(b.c.Delete(x.ID))
			}
			want = b.made(b.c.Create(1)) + 1 // so that there is one ahead
		}
	}
}

// P16.1: the last numbers, and what is behind them: 0 is nobody's.
func TestLastNumbers(t *testing.T) {
	b := over(t, disk.New(100), 2, 256, 1<<32-2)
	for _, want := range []uint32{1<<32 - 2, 1<<32 - 1, 1, 2} {
		if n := b.c.Next(); n != want {
			t.Errorf("Next: %d, not %d", n, want)
		}
		if id := b.made(b.c.Create(1)); id != want {
			t.Errorf("Create: %d, not %d", id, want)
		}
	}
	if l := b.c.Entries(); len(l) != 4 || l[0].ID != 1 || l[1].ID != 2 || l[2].ID != 1<<32-2 || l[3].ID != 1<<32-1 {
		t.Errorf("Entries: %+v", l)
	}
}

// P16.1, P16.2: a number that an adopted volume has isn't given; one that was given isn't given again.
func TestTaken(t *testing.T) {
	b := newBox(t, 100, 2, 256)
	b.c.Adopt([]catalog.Entry{{ID: 1, Size: 7}, {ID: 2, Size: 8}, {ID: 5, Size: 9}})
	for _, want := range []uint32{3, 4, 6} {
		if n := b.c.Next(); n != want {
			t.Errorf("Next: %d, not %d", n, want)
		}
		if id := b.made(b.c.Create(1)); id != want {
			t.Errorf("Create: %d, not %d", id, want)
		}
	}
	for _, id := range []uint32{1, 3, 6} {
		b.works(b.c.Delete(id))
	}
	if n := b.c.Next(); n != 7 {
		t.Errorf("Next: %d", n)
	}
	if b.info(2).Size != 8 || b.info(5).Size != 9 {
		t.Errorf("Entries: %+v", b.c.Entries())
	}
}

// P16.1: a volume, and none.
func TestInfo(t *testing.T) {
	b := newBox(t, 100, 2, 256)
	id := b.made(b.c.Create(7))
	b.fill(id, 3, 2, 1)
	b.c.SetEpoch(4)
	copied := b.made(b.c.Snapshot(id))
	for range 2 {
		x := b.info(id)
		if x != (catalog.Entry{ID: id, Size: 7, Root: x.Root, Born: 1}) || x.Root == 0 {
			t.Errorf("Info: %+v", x)
		}
		if y := b.info(copied); y != (catalog.Entry{ID: copied, Parent: id, Only: true, Size: 7, Root: x.Root, Born: 4}) {
			t.Errorf("Info: %+v", y)
		}
		for _, none := range []uint32{0, 3, 1<<32 - 1} {
			if x, e := b.c.Info(none); e != api.ErrNone || x != (catalog.Entry{}) {
				t.Errorf("Info(%d): %+v, %d", none, x, e)
			}
		}
		b.cut() // nothing is read from the disk
	}
}

// P16.1, K3: Entries rise by their numbers; what was answered, or handed in, is the caller's.
func TestEntries(t *testing.T) {
	b := newBox(t, 200, 2, 256)
	if l := b.c.Entries(); len(l) != 0 {
		t.Errorf("Entries: %v", l)
	}
	l := []catalog.Entry{{ID: 300, Size: 1}, {ID: 2, Size: 2}, {ID: 1 << 31, Size: 3}, {ID: 1<<31 - 1, Size: 4}, {ID: 1<<32 - 1, Size: 5}}
	b.c.Adopt(l)
	was := b.c.Entries()
	if want := []uint32{2, 300, 1<<31 - 1, 1 << 31, 1<<32 - 1}; !slices.EqualFunc(was, want, func(x catalog.Entry, id uint32) bool { return x.ID == id }) {
		t.Errorf("Entries: %+v", was)
	}
	for i := range l {
		l[i] = catalog.Entry{}
	}
	told := slices.Clone(was)
	b.made(b.c.Create(9))
	b.works(b.c.Resize(2, 20))
	b.works(b.c.Delete(300))
	if !slices.Equal(was, told) {
		t.Errorf("what Entries answered: %+v", was)
	}
	for i := range was {
		was[i] = catalog.Entry{}
	}
	if l := b.c.Entries(); len(l) != 5 || l[0] != (catalog.Entry{ID: 1, Size: 9, Born: 1}) || l[1] != (catalog.Entry{ID: 2, Size: 20}) {
		t.Errorf("Entries: %+v", l)
	}
}

// P16.1: copies of volumes, of copies, of what may be read only; each has the sectors of then, and costs none.
func TestCopies(t *testing.T) {
	b := newBox(t, 300, 2, 256)
	id := b.made(b.c.Create(70))
	text := with(noughts(70*64), 5*64, b.fill(id, 5, 40, 1))
	held, free := b.h.Held(), b.h.Free()
	for i, c := range []struct {
		of   uint32
		make func(id uint32) (uint32, api.Errno)
		only bool
	}{{1, b.c.Snapshot, true}, {2, b.c.Clone, false}, {3, b.c.Clone, false}, {2, b.c.Snapshot, true}, {5, b.c.Snapshot, true}} {
		b.c.SetEpoch(uint32(10 + i))
		got, want := b.made(c.make(c.of)), uint32(2+i)
		x := catalog.Entry{ID: want, Parent: c.of, Only: c.only, Size: 70, Root: b.info(id).Root, Born: uint32(10 + i)}
		if got != want || b.info(got) != x {
			t.Errorf("copy %d: %+v", got, b.info(got))
		}
		b.has("a copy", got, text)
	}
	if b.h.Held() != held || b.h.Free() != free {
		t.Errorf("%d are held, not %d", b.h.Held(), held)
	}
	b.reached()
}

// P16.1: what stands in the way of a new volume, each by itself and several together, the first one first.
func TestMakeOrder(t *testing.T) {
	b := newBox(t, 100, 2, 256)
	b.made(b.c.Create(5))
	answers := func(what string, create, snapshot, clone, none api.Errno) {
		t.Helper()
		for _, c := range []struct {
			what string
			make func() (uint32, api.Errno)
			want api.Errno
		}{
			{"Create", func() (uint32, api.Errno) { return b.c.Create(5) }, create},
			{"Create of 0", func() (uint32, api.Errno) { return b.c.Create(0) }, api.ErrArg},
			{"Create of 2049", func() (uint32, api.Errno) { return b.c.Create(2049) }, api.ErrArg},
			{"Snapshot", func() (uint32, api.Errno) { return b.c.Snapshot(1) }, snapshot},
			{"Snapshot of none", func() (uint32, api.Errno) { return b.c.Snapshot(99) }, none},
			{"Clone", func() (uint32, api.Errno) { return b.c.Clone(1) }, clone},
			{"Clone of none", func() (uint32, api.Errno) { return b.c.Clone(99) }, none},
			{"Clone of 0", func() (uint32, api.Errno) { return b.c.Clone(0) }, none},
		} {
			if c.want == api.OK {
				continue
			}
			b.refused(what+": "+c.what, c.want, func() api.Errno {
				id, e := c.make()
				if id != 0 {
					t.Errorf("%s: %s: %d", what, c.what, id)
				}
				return e
			})
		}
	}
	answers("one volume", api.OK, api.OK, api.OK, api.ErrNone)
	b.leave(3)
	answers("no room", api.ErrSpace, api.ErrSpace, api.ErrSpace, api.ErrNone)
	b = newBox(t, 100, 2, 256)
	for range 16 {
		b.made(b.c.Create(5))
	}
	answers("sixteen volumes", api.ErrFull, api.ErrFull, api.ErrFull, api.ErrNone)
	b.leave(3)
	answers("sixteen volumes, no room", api.ErrFull, api.ErrFull, api.ErrFull, api.ErrNone)
}

// P16.1: as many volumes as there may be, one less, and more, that were adopted.
func TestFull(t *testing.T) {
	for _, n := range []int{14, 15, 16, 17, 30} {
		b := newBox(t, 200, 2, 256)
		var l []catalog.Entry
		for i := range n {
			l = append(l, catalog.Entry{ID: uint32(i + 1), Size: 1})
		}
		b.c.Adopt(l)
		for ; n < 16; n++ {
			b.made(b.c.Clone(1))
		}
		b.refused("Create", api.ErrFull, func() api.Errno { _, e := b.c.Create(1); return e })
		b.refused("Clone", api.ErrFull, func() api.Errno { _, e := b.c.Clone(1); return e })
		for ; n >= 16; n-- {
			b.works(b.c.Delete(uint32(n)))
		}
		b.made(b.c.Snapshot(1))
		b.refused("Snapshot", api.ErrFull, func() api.Errno { _, e := b.c.Snapshot(1); return e })
	}
}

// P16.1, P16.3: a new volume needs that twice as many sectors are free as there are volumes with it.
func TestMakeSpace(t *testing.T) {
	for n := 1; n <= 16; n++ {
		for _, free := range []int{0, 1, 2*n - 3, 2*n - 2, 2*n - 1, 2 * n, 2*n + 1} {
			b := newBox(t, 60, 2, 256)
			for range n - 1 {
				b.made(b.c.Create(1))
			}
			b.leave(max(free, 0))
			for i, make := range []func() (uint32, api.Errno){
				func() (uint32, api.Errno) { return b.c.Create(1) },
				func() (uint32, api.Errno) { return b.c.Snapshot(1) },
				func() (uint32, api.Errno) { return b.c.Clone(1) },
			} {
				switch {
				case n == 1 && i > 0:
				case free < 2*n:
					b.refused("no room", api.ErrSpace, func() api.Errno { _, e := make(); return e })
				default:
					b.works(b.c.Delete(b.made(make())))
				}
			}
		}
	}
}

// P16.1: late sectors aren't free.
func TestMakeLate(t *testing.T) {
	b := newBox(t, 40, 2, 256)
	id := b.made(b.c.Create(100))
	b.fill(id, 0, 4, 1)
	b.h.Settle()
	b.leave(3)
	b.works(b.c.Trim(id, 0, 4))
	if b.h.Late() != 8 {
		t.Fatalf("%d are late", b.h.Late())
	}
	b.refused("Create", api.ErrSpace, func() api.Errno { _, e := b.c.Create(1); return e })
	b.h.Settle()
	b.made(b.c.Create(1))
}

// P16.1: a volume goes; its copies stay as they are, and so does the one whose copy it is.
func TestDelete(t *testing.T) {
	b := newBox(t, 300, 2, 256)
	id := b.made(b.c.Create(30))
	one := b.fill(id, 0, 30, 1)
	snap := b.made(b.c.Snapshot(id))
	clone := b.made(b.c.Clone(snap))
	b.works(b.c.Write(clone, 3, sector("clone's")))
	two := with(one, 3*64, sector("clone's"))
	x, y := b.info(id), b.info(clone)
	for _, none := range []uint32{0, 4, 99, 1<<32 - 1} {
		b.refused("Delete of none", api.ErrNone, func() api.Errno { return b.c.Delete(none) })
	}
	b.works(b.c.Delete(snap))
	b.refused("Delete again", api.ErrNone, func() api.Errno { return b.c.Delete(snap) })
	if b.info(id) != x || b.info(clone) != y || y.Parent != snap || len(b.c.Entries()) != 2 {
		t.Errorf("Entries: %+v", b.c.Entries())
	}
	b.has("the first one", id, one)
	b.has("the copy", clone, two)
	b.reached()
	b.works(b.c.Delete(id))
	b.has("the copy", clone, two)
	b.reached()
	b.works(b.c.Delete(clone))
	if len(b.c.Entries()) != 0 || b.h.Held() != 0 || b.c.Maps.Extents.Count() != 0 || b.c.Next() != 4 {
		t.Errorf("%d are held, Next is %d", b.h.Held(), b.c.Next())
	}
}

// P16.1: of a volume that there isn't each call tells that first; of one that is to be read only those that
// change it tell that.
func TestNoneAndOnly(t *testing.T) {
	b := newBox(t, 100, 2, 256)
	b.fill(b.made(b.c.Create(10)), 0, 10, 1)
	only := b.made(b.c.Snapshot(1))
	for _, id := range []uint32{0, 3, 1<<32 - 1, only} {
		want, read := api.ErrNone, api.ErrNone
		if id == only {
			want, read = api.ErrOnly, api.OK
		}
		for i, run := range []func() api.Errno{
			func() api.Errno { return b.c.Write(id, 0, sector("x")) },
			func() api.Errno { return b.c.Write(id, 0, "") },
			func() api.Errno { return b.c.Write(id, -1, "no sector") },
			func() api.Errno { return b.c.Trim(id, 0, 1) },
			func() api.Errno { return b.c.Trim(id, 0, 0) },
			func() api.Errno { return b.c.Trim(id, -1, most) },
			func() api.Errno { return b.c.Resize(id, 10) },
			func() api.Errno { return b.c.Resize(id, 0) },
			func() api.Errno { return b.c.Resize(id, 5) },
		} {
			b.refused("call "+string(rune('0'+i)), want, run)
		}
		b.refused("Read", read, func() api.Errno {
			s, e := b.c.Read(id, 0, 1)
			if len(s) != 64 && e == api.OK || s != "" && e != api.OK {
				t.Errorf("Read: %q, %d", s, e)
			}
			return e
		})
		b.refused("Sum", read, func() api.Errno {
			sum, e := b.c.Sum(id)
			if (sum == sha.Sum{}) != (e != api.OK) {
				t.Errorf("Sum: %s, %d", sum.Hex(), e)
			}
			return e
		})
		if id != only {
			b.refused("Read of too many", api.ErrNone, func() api.Errno { _, e := b.c.Read(id, -1, -1); return e })
		}
	}
}

// P16.1: the epoch is what was said last, of all that is made from then on.
func TestEpoch(t *testing.T) {
	b := newBox(t, 100, 2, 256)
	want := []uint32{1}
	b.made(b.c.Create(1))
	for _, n := range []uint32{0, 1<<32 - 1, 5} {
		b.c.SetEpoch(n)
		b.made(b.c.Create(1))
		b.made(b.c.Clone(1))
		want = append(want, n, n)
	}
	b.fill(1, 0, 1, 1)
	b.works(b.c.Resize(1, 3))
	for i, x := range b.c.Entries() {
		if x.Born != want[i] {
			t.Errorf("%+v: Born isn't %d", x, want[i])
		}
	}
}

// P16.1: volumes whose maps lie there are what they were, for others over a copy of the disk, and are changed
// there apart from these.
func TestAdopt(t *testing.T) {
	b := newBox(t, 600, 2, 256)
	b.made(b.c.Create(100))
	b.fill(1, 3, 60, 1)
	b.made(b.c.Snapshot(1))
	b.fill(1, 20, 5, 2)
	b.made(b.c.Clone(2))
	b.works(b.c.Trim(3, 0, 90))
	b.made(b.c.Create(2048))
	b.fill(4, 2044, 4, 3)
	b.works(b.c.Delete(1))
	was, texts := b.state(), b.texts()
	a := b.again()
	b.h.Settle()
	was.late, was.free = 0, was.free+was.late
	a.is("adopted", was)
	for id, s := range texts {
		a.has("adopted", id, s)
		x, _ := a.c.Sum(id)
		if y, _ := b.c.Sum(id); x != y {
			t.Errorf("Sum: %s, not %s", x.Hex(), y.Hex())
		}
	}
	a.reached()
	a.fill(3, 0, 9, 4)
	a.works(a.c.Delete(2))
	a.reached()
	for id, s := range texts {
		b.has("what was adopted", id, s)
	}
	for _, x := range a.c.Entries() {
		a.works(a.c.Delete(x.ID))
	}
	if a.h.Held() != 0 {
		t.Errorf("%v are held", a.h.All())
	}
}

// P16.1: layer 13's errors of a map that doesn't lie there, or not whole.
func TestAdoptRefused(t *testing.T) {
	b := newBox(t, 100, 2, 256)
	b.made(b.c.Create(10))
	b.fill(1, 0, 4, 1)
	root := b.info(1).Root
	for _, c := range []struct {
		root int
		want api.Errno
	}{{root, api.OK}, {0, api.OK}, {1, api.ErrRange}, {100, api.ErrRange}, {65535, api.ErrRange}, {root - 1, api.ErrForm}, {99, api.ErrSum}} {
		a := over(t, b.d.Clone(), 2, 256, 5)
		e := pack.Guard(func() { a.c.Adopt([]catalog.Entry{{ID: 1, Size: 1}, {ID: 3, Size: 10, Root: c.root}}) })
		if e != c.want {
			t.Errorf("Adopt of the root %d: %d, not %d", c.root, e, c.want)
		}
	}
	for at := 2; at < 10; at++ {
		a := over(t, b.d.Clone(), 2, 256, 5)
		a.spoil(at)
		e := pack.Guard(func() { a.c.Adopt(b.c.Entries()) })
		if _, r := a.c.Read(1, 0, 4); e == api.OK && r != api.ErrSum || e != api.OK && e != api.ErrSum {
			t.Errorf("Adopt with the sector %d spoilt: %d; Read: %d", at, e, r)
		}
	}
	a := over(t, b.d.Clone(), 2, 256, 5)
	a.cut()
	if e := pack.Guard(func() { a.c.Adopt(b.c.Entries()) }); e != api.ErrCut {
		t.Errorf("Adopt without power: %d", e)
	}
}
