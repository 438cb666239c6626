package block_test

import (
	"slices"
	"strings"
	"testing"

	"stereobate/api"
	"stereobate/block"
	"stereobate/catalog"
	"stereobate/disk"
	"stereobate/pack"
	"stereobate/redo"
	"stereobate/sha"
	"stereobate/store"
	"stereobate/super"
)

const (
	most  = 1<<63 - 1
	least = -1 << 63
)

// P19.1: the document's example.
func TestExample(t *testing.T) {
	b := newBox(t, 40, 4, 256)
	if id := b.create(5); id != 1 {
		t.Errorf("Create: %d", id)
	}
	b.works(b.a.Flush())
	b.d.Crash()
	b = over(t, b.d)
	if x, e := b.a.Info(1); e != api.OK || x.Size != 5 || len(b.a.Entries()) != 1 {
		t.Errorf("Info: %+v, %d", x, e)
	}
}

// P19.2: the document's seventh example of the whole.
func TestExampleOfFlush(t *testing.T) {
	b := newBox(t, 40, 8, 256)
	b.create(5)
	b.fill(1, 0, 1, 1)
	b.works(b.a.Flush())
	was := b.view()
	b.fill(1, 1, 1, 2)
	now := b.view()
	b.again().is("nothing of the second Write is there", was)
	b.again(whole(b.d)...).is("all of it is there", now)
	for cut := range 65 {
		b.again(slices.Repeat([]int{cut}, b.d.Len())...).one("torn", []view{was, now})
	}
}

// P19.1: the fifth, sixth and ninth examples of the whole.
func TestExamplesOfExtents(t *testing.T) {
	b := newBox(t, 3000, 20, 256)
	for range 10 {
		b.fill(b.create(9), 4, 4, 3)
	}
	if n := b.a.Store().Maps.Extents.Count(); n != 1 {
		t.Errorf("%d extents of one text", n)
	}
	id := b.create(2000)
	for at := range 500 {
		b.do(written(id, 4*at, sector("extent "+string(rune('A'+at)))))
	}
	b.works(b.a.Checkpoint())
	held := b.a.Store().Heap.Held()
	b.made(redo.Op{Kind: redo.Snapshot, ID: id})
	b.works(b.a.Checkpoint())
	if n := b.a.Store().Heap.Held(); n != held+1 {
		t.Errorf("a snapshot takes %d sectors", n-held)
	}
	b = newBox(t, 100, 20, 1)
	b.create(50)
	var done []api.Errno
	for at := range 12 {
		_, e := b.a.Do(written(1, 4*at, sector(string(rune('a'+at)))))
		done = append(done, e)
	}
	if n := b.a.Store().Maps.Extents.Count(); n != 2 || done[0] != api.OK || !slices.Contains(done, api.ErrClash) {
		t.Errorf("%d extents, %v", n, done)
	}
}

// P19.1: Format: layer 18's errors, and nothing is changed beside one; else an archive without volumes.
func TestFormat(t *testing.T) {
	for _, c := range []struct {
		sectors, journal, bits int
		want                   api.Errno
	}{
		{38, 4, 256, api.OK}, {38, 4, 1, api.OK}, {4096, 512, 9, api.OK}, {9999, 4, 9, api.OK}, // a disk has at most 4096
		{38, 3, 256, api.ErrArg}, {38, 513, 256, api.ErrArg}, {38, 4, 0, api.ErrArg}, {38, 4, 257, api.ErrArg},
		{38, most, 9, api.ErrArg}, {38, least, 9, api.ErrArg}, {38, 4, least, api.ErrArg}, {0, 3, 9, api.ErrArg},
		{37, 4, 256, api.ErrSpace}, {38, 5, 256, api.ErrSpace}, {0, 4, 9, api.ErrSpace},
	} {
		d := disk.New(c.sectors)
		was := d.Clone()
		if e := block.Format(d, c.journal, c.bits); e != c.want {
			t.Errorf("Format of %d sectors, %d, %d: %d, not %d", c.sectors, c.journal, c.bits, e, c.want)
		} else if e != api.OK {
			alike(t, "Format", d, was)
			fails(t, "not formatted", d, api.ErrForm)
		} else {
			b := over(t, d)
			want := super.Super{Epoch: 2, Journal: c.journal, Bits: c.bits, Next: 1}
			if len(b.a.Entries()) != 0 || b.a.Store().Super != want || b.a.Room() != c.journal {
				t.Errorf("Mount: %+v, Room %d", b.a.Store().Super, b.a.Room())
			}
		}
	}
}

// P19.1: Format over an archive: nothing of it is left, nor of its journal; and without power.
func TestFormatAgain(t *testing.T) {
	b := newBox(t, 100, 10, 256)
	b.create(9)
	b.works(b.a.Checkpoint())
	b.create(8)
	b.works(b.a.Flush())
	for _, journal := range []int{4, 10, 30} {
		d := b.d.Clone()
		if e := block.Format(d, journal, 256); e != api.OK {
			t.Fatalf("Format: %d", e)
		}
		c := over(t, d)
		if l := c.a.Entries(); len(l) != 0 || c.epoch() != 2 {
			t.Errorf("Format with %d: %+v, epoch %d", journal, l, c.epoch())
		}
		c.create(3)
		c.works(c.a.Flush())
		if l := c.again().a.Entries(); len(l) != 1 || l[0].Size != 3 {
			t.Errorf("Format with %d, and Create: %+v", journal, l)
		}
	}
	for n := range 14 {
		d := b.d.Clone()
		d.Arm(n)
		if e := block.Format(d, 10, 256); e != api.ErrCut {
			t.Errorf("Format with %d calls: %d", n, e)
		}
		if e := block.Format(d, 10, 256); e != api.ErrCut {
			t.Errorf("Format without power: %d", e)
		}
		if e := block.Format(d, 3, 256); e != api.ErrArg {
			t.Errorf("Format without power: %d", e)
		}
		fails(t, "without power", d, api.ErrCut)
	}
}

// P19.1: each kind of op: its answer, what it does, what stands in the journal; it isn't synced.
func TestDo(t *testing.T) {
	b := newBox(t, 200, 60, 256)
	x, y := some(noise(1), 128), some(noise(2), 128)
	var stands []redo.Op
	for _, c := range []struct {
		o    redo.Op
		id   uint32
		last string // what the volume 1 reads then
	}{
		{redo.Op{Kind: redo.Create, N: 6}, 1, noughts(6 * 64)},
		{written(1, 3, x), 0, noughts(3*64) + x + noughts(64)},
		{redo.Op{Kind: redo.Snapshot, ID: 1}, 2, noughts(3*64) + x + noughts(64)},
		{written(1, 4, y), 0, noughts(3*64) + x[:64] + y},
		{redo.Op{Kind: redo.Clone, ID: 2}, 3, noughts(3*64) + x[:64] + y},
		{written(3, 0, y), 0, noughts(3*64) + x[:64] + y},
		{redo.Op{Kind: redo.Trim, ID: 1, At: 4, N: 1}, 0, noughts(3*64) + x[:64] + noughts(64) + y[64:]},
		{redo.Op{Kind: redo.Resize, ID: 1, N: 5}, 0, noughts(3*64) + x[:64] + noughts(64)},
		{redo.Op{Kind: redo.Resize, ID: 1, N: 7}, 0, noughts(3*64) + x[:64] + noughts(3*64)},
		{redo.Op{Kind: redo.Delete, ID: 2}, 0, noughts(3*64) + x[:64] + noughts(3*64)},
		{written(1, 7, ""), 0, noughts(3*64) + x[:64] + noughts(3*64)},
		{redo.Op{Kind: redo.Trim, ID: 1, At: 0, N: 0}, 0, noughts(3*64) + x[:64] + noughts(3*64)},
		{redo.Op{Kind: redo.Create, ID: 77, At: 5, N: 2048, Data: "which says nothing"}, 4, noughts(3*64) + x[:64] + noughts(3*64)},
	} {
		if id, e := b.a.Do(c.o); id != c.id || e != api.OK {
			t.Fatalf("Do of %+v: %d, %d", c.o, id, e)
		}
		stands = append(stands, c.o)
		b.stands(stands...)
		info, _ := b.a.Info(1)
		if s, e := b.a.Read(1, 0, info.Size); s != c.last || e != api.OK {
			t.Errorf("behind %+v: %q, %d", c.o, s, e)
		}
		if loose := b.d.Loose(); len(loose) == 0 || b.epoch() != 2 {
			t.Errorf("behind %+v: %v are loose, epoch %d", c.o, loose, b.epoch())
		}
		if n := len(b.again().a.Entries()); n != 0 {
			t.Errorf("behind %+v, without a Flush: %d volumes", c.o, n)
		}
	}
	for _, want := range []catalog.Entry{{ID: 1, Size: 7, Born: 2}, {ID: 3, Parent: 2, Size: 6, Born: 2}, {ID: 4, Size: 2048, Born: 2}} {
		x, e := b.a.Info(want.ID)
		if x.Root = 0; e != api.OK || x != want {
			t.Errorf("Info(%d): %+v, %d, not %+v", want.ID, x, e, want)
		}
	}
	b.again(whole(b.d)...).is("done once more", b.view())
}

// P19.1: ops that are refused: layer 17's errors, in their order; nothing is changed, nothing stands in the
// journal.
func TestDoRefused(t *testing.T) {
	b := newBox(t, 200, 60, 256)
	b.create(10)
	b.made(redo.Op{Kind: redo.Snapshot, ID: 1})
	b.fill(1, 0, 10, 1)
	x := some(noise(2), 64)
	for _, c := range []struct {
		o    redo.Op
		want api.Errno
	}{
		{redo.Op{}, api.ErrKind}, {redo.Op{Kind: 8, ID: 1, N: 1}, api.ErrKind}, {redo.Op{Kind: -1}, api.ErrKind}, {redo.Op{Kind: 257, N: 5}, api.ErrKind},
		{redo.Op{Kind: most}, api.ErrKind}, {redo.Op{Kind: least}, api.ErrKind},
		{redo.Op{Kind: redo.Create}, api.ErrArg}, {redo.Op{Kind: redo.Create, N: -1}, api.ErrArg}, {redo.Op{Kind: redo.Create, N: 2049}, api.ErrArg},
		{redo.Op{Kind: redo.Create, N: 65536 + 5}, api.ErrArg}, {redo.Op{Kind: redo.Create, N: most}, api.ErrArg},
		{redo.Op{Kind: redo.Snapshot}, api.ErrNone}, {redo.Op{Kind: redo.Snapshot, ID: 3}, api.ErrNone}, {redo.Op{Kind: redo.Clone, ID: 1<<32 - 1}, api.ErrNone},
		{redo.Op{Kind: redo.Delete}, api.ErrNone}, {redo.Op{Kind: redo.Delete, ID: 3}, api.ErrNone},
		{redo.Op{Kind: redo.Resize, ID: 3}, api.ErrNone}, {redo.Op{Kind: redo.Resize, ID: 2}, api.ErrOnly}, {redo.Op{Kind: redo.Resize, ID: 1}, api.ErrArg},
		{redo.Op{Kind: redo.Resize, ID: 1, N: 2049}, api.ErrArg}, {redo.Op{Kind: redo.Resize, ID: 1, N: least}, api.ErrArg},
		{written(3, 0, "x"), api.ErrNone}, {written(2, 0, "x"), api.ErrOnly}, {written(1, 99, "x"), api.ErrArg}, {written(1, 0, x+"x"), api.ErrArg},
		{written(1, 10, x), api.ErrRange}, {written(1, -1, x), api.ErrRange}, {written(1, 11, ""), api.ErrRange}, {written(1, 65536, x), api.ErrRange},
		{written(1, most, x), api.ErrRange}, {written(1, least, ""), api.ErrRange},
		{redo.Op{Kind: redo.Trim, ID: 3, N: 1}, api.ErrNone}, {redo.Op{Kind: redo.Trim, ID: 2, At: 99}, api.ErrOnly},
		{redo.Op{Kind: redo.Trim, ID: 1, At: 9, N: 2}, api.ErrRange}, {redo.Op{Kind: redo.Trim, ID: 1, N: -1}, api.ErrRange}, {redo.Op{Kind: redo.Trim, ID: 1, At: 1, N: most}, api.ErrRange},
	} {
		b.refused("Do", c.want, func() api.Errno {
			id, e := b.a.Do(c.o)
			if id != 0 {
				t.Errorf("Do of %+v: %d", c.o, id)
			}
			return e
		})
	}
	for len(b.a.Entries()) < 16 {
		b.create(1)
	}
	for _, o := range []redo.Op{{Kind: redo.Create, N: 1}, {Kind: redo.Snapshot, ID: 1}, {Kind: redo.Clone, ID: 2}} {
		b.refused("a seventeenth volume", api.ErrFull, func() api.Errno { _, e := b.a.Do(o); return e })
	}
	b = newBox(t, 100, 60, 1)
	b.create(30)
	l := unlike(3)
	b.do(written(1, 0, l[0]))
	b.do(written(1, 4, l[1]))
	b.refused("a clash", api.ErrClash, func() api.Errno { _, e := b.a.Do(written(1, 8, l[2])); return e })
}

// unlike: the texts of so many extents; the first two have two addresses of one bit.
func unlike(n int) []string {
	next := noise(9)
	l := []string{some(next, 256)}
	for len(l) < n {
		s := some(next, 256)
		if len(l) > 1 || sha.Of(s).Head(1) != sha.Of(l[0]).Head(1) {
			l = append(l, s)
		}
	}
	return l
}

// P19.1: as long as there is room an op stands in the journal; where there isn't, a checkpoint is made instead,
// and the op is in that.
func TestJournalFull(t *testing.T) {
	b := newBox(t, 300, 7, 256)
	b.create(100) // one frame
	b.fill(1, 0, 1, 1)
	b.fill(1, 1, 1, 2) // two of 73 bytes
	if b.a.Room() != 2 || b.epoch() != 2 {
		t.Errorf("Room: %d, epoch %d", b.a.Room(), b.epoch())
	}
	b.do(written(1, 2, ""))
	if b.a.Room() != 1 || b.epoch() != 2 {
		t.Errorf("Room: %d, epoch %d", b.a.Room(), b.epoch())
	}
	b.fill(1, 2, 1, 3)
	if b.epoch() != 3 {
		t.Errorf("epoch %d", b.epoch())
	}
	b.fresh()
	b.again().is("a checkpoint", b.view())
	for _, c := range []struct{ size, frames int }{{9, 1}, {46, 1}, {47, 2}, {73, 2}, {92, 2}, {93, 3}, {137, 3}, {201, 5}, {265, 6}, {276, 6}, {277, 7}, {322, 7}} {
		o := redo.Op{Kind: redo.Delete, ID: b.create(1), Data: noughts(c.size - 9)}
		b.works(b.a.Checkpoint())
		b.do(o)
		b.stands(o)
		if b.a.Room() != 7-c.frames {
			t.Errorf("a record of %d bytes: Room %d", c.size, b.a.Room())
		}
	}
	b.works(b.a.Checkpoint())
	epoch := b.epoch()
	b.do(redo.Op{Kind: redo.Resize, ID: 1, N: 100, Data: noughts(7*46 - 8)}) // one byte too many, whatever stands there
	if b.epoch() != epoch+1 {
		t.Errorf("epoch %d, not %d", b.epoch(), epoch+1)
	}
	b.fresh()
	b.fill(1, 0, 100, 4)
	if b.epoch() != epoch+2 {
		t.Errorf("epoch %d, not %d", b.epoch(), epoch+2)
	}
	b.fresh()
	b.again().is("a great Write", b.view())
}

// P19.1: a new volume's number, and its epoch, where a checkpoint is made instead of a record.
func TestJournalFullOfVolumes(t *testing.T) {
	b := newBox(t, 100, 4, 256)
	for i := range 14 {
		epoch := b.epoch()
		if id := b.create(3); id != uint32(i+1) {
			t.Errorf("Create: %d, not %d", id, i+1)
		}
		if x, _ := b.a.Info(uint32(i + 1)); x.Born != epoch {
			t.Errorf("volume %d is born in %d, not %d", i+1, x.Born, epoch)
		}
		if i%5 == 4 {
			b.fresh()
		} else if b.a.Room() != 3-i%5 {
			t.Errorf("Room: %d", b.a.Room())
		}
	}
	if b.epoch() != 4 {
		t.Errorf("epoch %d", b.epoch())
	}
	b.again(whole(b.d)...).is("fourteen volumes", b.view())
}

// P19.1: an op for which there isn't room ahead of a checkpoint, and is behind it; one for which there never is.
func TestSpace(t *testing.T) {
	b := newBox(t, 40, 60, 256)
	b.create(16)
	b.fill(1, 0, 12, 1) // three extents, three nodes
	b.works(b.a.Checkpoint())
	b.do(redo.Op{Kind: redo.Delete, ID: 1})
	if b.a.Store().Heap.Late() != 3+15+0 {
		t.Fatalf("%d are late", b.a.Store().Heap.Late())
	}
	b.create(16)
	b.fill(2, 0, 8, 2)
	epoch := b.epoch()
	o := written(2, 0, some(noise(3), 12*64))
	b.do(o)
	if b.epoch() != epoch+1 {
		t.Errorf("epoch %d, not %d", b.epoch(), epoch+1)
	}
	b.stands(o)
	b.again(whole(b.d)...).is("a Write behind a checkpoint", b.view())
	was := b.view()
	if id, e := b.a.Do(written(2, 0, some(noise(4), 16*64))); id != 0 || e != api.ErrSpace {
		t.Errorf("Do: %d, %d", id, e)
	}
	if b.epoch() != epoch+2 {
		t.Errorf("epoch %d, not %d", b.epoch(), epoch+2)
	}
	b.settled()
	b.is("no room", was)
	b.again().is("no room", was)
}

// P19.1: a volume that is made behind a checkpoint, as there wasn't room; it is of the new epoch.
func TestSpaceOfVolumes(t *testing.T) {
	b := newBox(t, 32, 9, 256)
	b.create(16)
	b.fill(1, 0, 12, 1)
	b.works(b.a.Checkpoint())
	b.do(redo.Op{Kind: redo.Delete, ID: 1})
	for b.a.Store().Heap.Free() >= 2*(len(b.a.Entries())+1) {
		b.create(5)
	}
	epoch, n := b.epoch(), uint32(len(b.a.Entries())+2)
	if id := b.create(7); id != n {
		t.Errorf("Create: %d, not %d", id, n)
	}
	x, e := b.a.Info(n)
	if e != api.OK || x.Born != epoch+1 || b.epoch() != epoch+1 {
		t.Errorf("Info: %+v, %d, epoch %d, not %d", x, e, b.epoch(), epoch+1)
	}
	b.stands(redo.Op{Kind: redo.Create, N: 7})
	b.works(b.a.Flush())
	b.again().is("a volume behind a checkpoint", b.view())
}

// P19.1: an op for which there isn't room ahead of a checkpoint, and whose record the journal never has.
func TestSpaceTwice(t *testing.T) {
	b := newBox(t, 60, 4, 256)
	b.create(20)
	b.fill(1, 0, 16, 1)
	epoch := b.epoch()
	b.do(redo.Op{Kind: redo.Trim, ID: 1, N: 12})
	b.fill(1, 0, 8, 2)
	if b.epoch() != epoch+1 {
		t.Fatalf("epoch %d, not %d", b.epoch(), epoch+1)
	}
	b.do(redo.Op{Kind: redo.Trim, ID: 1, N: 16})
	b.fill(1, 0, 20, 3)
	if b.epoch() != epoch+3 {
		t.Fatalf("epoch %d, not %d", b.epoch(), epoch+3)
	}
	b.fresh()
	b.again().is("two checkpoints", b.view())
}

// P19.1: Flush: all is sure, and nothing else; Checkpoint: likewise, and the journal is a new one.
func TestFlush(t *testing.T) {
	b := newBox(t, 100, 12, 256)
	b.create(20)
	b.fill(1, 3, 2, 1)
	was := b.state()
	b.works(b.a.Flush())
	b.same("Flush", was)
	if l := b.d.Loose(); l != nil {
		t.Errorf("%v are loose", l)
	}
	b.again().is("a Flush", b.view())
	b.fill(1, 7, 2, 1)
	v := b.view()
	b.works(b.a.Checkpoint())
	b.is("a Checkpoint", v)
	b.fresh()
	if b.epoch() != was.epoch+1 {
		t.Errorf("epoch %d, not %d", b.epoch(), was.epoch+1)
	}
	b.again().is("a Checkpoint", v)
	b.works(b.a.Checkpoint())
	b.fresh()
	if b.epoch() != was.epoch+2 {
		t.Errorf("epoch %d, not %d", b.epoch(), was.epoch+2)
	}
}

// P19.1: Mount: layer 18's errors; one checkpoint more each time; all that stands in the journal is done.
func TestMount(t *testing.T) {
	for _, n := range []int{0, 1, 2, 38, 4096} {
		fails(t, "no archive", disk.New(n), api.ErrForm)
	}
	b := newBox(t, 100, 30, 256)
	v := b.view()
	for i := range 5 {
		b.create(5 + i)
		b.fill(uint32(i+1), 2, 3, uint64(i))
		v = b.view()
		epoch := b.epoch()
		if i%2 == 0 {
			b.works(b.a.Flush())
			b.d.Crash()
		} // else what is there is read, though it isn't sure
		b = over(t, b.d)
		b.is("Mount", v)
		if b.epoch() != epoch+1 {
			t.Errorf("epoch %d, not %d", b.epoch(), epoch+1)
		}
	}
	for range 4 {
		epoch := b.epoch()
		b = over(t, b.d)
		b.is("Mount", v)
		if b.epoch() != epoch+1 {
			t.Errorf("epoch %d, not %d", b.epoch(), epoch+1)
		}
	}
	_, l := b.catalog()
	spoil(b.d, l[2])
	fails(t, "a spoilt entry", b.d, api.ErrSum)
	spoil(b.d, l[2])
	over(t, b.d.Clone()).is("whole again", v)
	spoil(b.d, 0)
	spoil(b.d, 1)
	fails(t, "two spoilt supers", b.d, api.ErrForm)
}

// P19.1: Read, Sum, Entries, Info: layer 16's answers and errors.
func TestRead(t *testing.T) {
	b := newBox(t, 200, 30, 256)
	x := some(noise(1), 10*64)
	b.create(10)
	b.do(written(1, 0, x))
	b.made(redo.Op{Kind: redo.Snapshot, ID: 1})
	b.create(10)
	for _, c := range []struct {
		id    uint32
		at, n int
		want  api.Errno
	}{
		{1, 0, 10, api.OK}, {1, 3, 5, api.OK}, {1, 10, 0, api.OK}, {2, 9, 1, api.OK}, {2, 4, 4, api.OK},
		{0, 0, 0, api.ErrNone}, {4, 0, 1, api.ErrNone}, {4, -1, 99, api.ErrNone}, {1 << 31, 0, 0, api.ErrNone},
		{1, 10, 1, api.ErrRange}, {1, 0, 11, api.ErrRange}, {1, -1, 1, api.ErrRange}, {1, 11, 0, api.ErrRange},
		{1, 0, -1, api.ErrRange}, {2, most, 1, api.ErrRange}, {2, 1, most, api.ErrRange}, {2, least, least, api.ErrRange},
	} {
		want := ""
		if c.want == api.OK {
			want = x[c.at*64 : (c.at+c.n)*64]
		}
		if s, e := b.a.Read(c.id, c.at, c.n); e != c.want || s != want {
			t.Errorf("Read(%d, %d, %d): %q, %d", c.id, c.at, c.n, s, e)
		}
	}
	if s, e := b.a.Read(3, 0, 10); s != noughts(640) || e != api.OK {
		t.Errorf("Read: %q, %d", s, e)
	}
	one, e := b.a.Sum(1)
	if two, f := b.a.Sum(2); one != two || one == (sha.Sum{}) || e != api.OK || f != api.OK {
		t.Errorf("Sum: %s, %d", one.Hex(), e)
	}
	if sum, e := b.a.Sum(3); sum != (sha.Sum{}) || e != api.OK {
		t.Errorf("Sum: %s, %d", sum.Hex(), e)
	}
	for _, id := range []uint32{0, 4, 1<<32 - 1} {
		if sum, e := b.a.Sum(id); sum != (sha.Sum{}) || e != api.ErrNone {
			t.Errorf("Sum(%d): %s, %d", id, sum.Hex(), e)
		}
		if x, e := b.a.Info(id); x != (catalog.Entry{}) || e != api.ErrNone {
			t.Errorf("Info(%d): %+v, %d", id, x, e)
		}
	}
}

// P19.1: what is read of a spoilt extent is an error, and nothing; what an op would read, too.
func TestReadSpoilt(t *testing.T) {
	b := newBox(t, 100, 30, 256)
	b.create(10)
	b.fill(1, 0, 10, 1)
	b.works(b.a.Checkpoint())
	for _, at := range b.reach() {
		spoil(b.d, at)
		s, e := b.a.Read(1, 0, 10)
		if s != "" || e != api.ErrSum {
			t.Errorf("Read with %d spoilt: %q, %d", at, s, e)
		}
		room := b.a.Room()
		if id, e := b.a.Do(redo.Op{Kind: redo.Trim, ID: 1, At: 1, N: 8}); id != 0 || e != api.OK && e != api.ErrSum || e != api.OK && b.a.Room() != room {
			t.Errorf("Do with %d spoilt: %d, %d, Room %d", at, id, e, b.a.Room())
		} else if e == api.OK {
			break
		}
		spoil(b.d, at)
		if s, e := b.a.Read(1, 0, 10); s != some(noise(1), 640) || e != api.OK {
			t.Errorf("Read with %d whole again: %d", at, e)
		}
	}
}

// K3: what Entries answers is nobody else's.
func TestEntriesShareNothing(t *testing.T) {
	b := newBox(t, 100, 30, 256)
	b.create(10)
	b.create(11)
	l := b.a.Entries()
	l[0] = catalog.Entry{ID: 9}
	slices.Reverse(l)
	if m := b.a.Entries(); len(m) != 2 || m[0].ID != 1 || m[1].Size != 11 {
		t.Errorf("Entries: %+v", m)
	}
}

// P19.1: from the call on within which the power was cut all that answer an error are ErrCut, and nothing else,
// even where there is power again; Entries and Info aren't.
func TestDead(t *testing.T) {
	for name, cut := range map[string]func(b *box) api.Errno{
		"Do":         func(b *box) api.Errno { _, e := b.a.Do(written(1, 0, sector("x"))); return e },
		"Create":     func(b *box) api.Errno { _, e := b.a.Do(redo.Op{Kind: redo.Create, N: 3}); return e },
		"Flush":      func(b *box) api.Errno { return b.a.Flush() },
		"Checkpoint": func(b *box) api.Errno { return b.a.Checkpoint() },
		"Change":     func(b *box) api.Errno { return b.a.Change(func(*store.Store) {}) },
		"hidden":     func(b *box) api.Errno { return b.a.Change(func(*store.Store) { pack.Guard(b.d.Sync) }) },
		"other": func(b *box) api.Errno {
			return b.a.Change(func(*store.Store) { pack.Guard(b.d.Sync); pack.Fail(api.ErrBase) })
		},
	} {
		b := newBox(t, 100, 30, 256)
		b.create(5)
		b.fill(1, 0, 5, 1)
		b.works(b.a.Flush())
		v, was, room := b.view(), b.a.Entries(), b.a.Room()
		if b.a.Dead() {
			t.Errorf("%s: Dead ahead of a cut", name)
		}
		b.d.Arm(0)
		if s, e := b.a.Read(1, 0, 5); s != v.texts[0] || e != api.OK || b.a.Dead() {
			t.Errorf("%s: Read of an armed disk: %d", name, e)
		}
		if e := cut(b); e != api.ErrCut || !b.a.Dead() {
			t.Errorf("%s: %d, Dead: %v", name, e, b.a.Dead())
		}
		for range 2 {
			b.isDead(name, was)
			if b.a.Room() != room {
				t.Errorf("%s: Room %d, not %d", name, b.a.Room(), room)
			}
			b.d.Crash()
		}
		over(t, b.d).is(name, v)
	}
}

// P19.1: where the power was cut beside the archive, by calls of the disk: its first call that answers an error
// finds that out, whatever it would be without a look at the disk.
func TestDeadBeside(t *testing.T) {
	for name, first := range map[string]func(b *box) (bool, api.Errno){
		"Read":       func(b *box) (bool, api.Errno) { s, e := b.a.Read(2, 2, 3); return s == "", e }, // of bytes 0, which lie nowhere
		"Sum":        func(b *box) (bool, api.Errno) { s, e := b.a.Sum(1); return s == sha.Sum{}, e },
		"Do":         func(b *box) (bool, api.Errno) { id, e := b.a.Do(redo.Op{Kind: redo.Clone, ID: 1}); return id == 0, e },
		"Flush":      func(b *box) (bool, api.Errno) { return true, b.a.Flush() },
		"Checkpoint": func(b *box) (bool, api.Errno) { return true, b.a.Checkpoint() },
		"Change":     func(b *box) (bool, api.Errno) { return true, b.a.Change(nil) },
	} {
		b := newBox(t, 100, 30, 256)
		b.create(5)
		b.create(5)
		b.fill(1, 0, 1, 1)
		was := b.a.Entries()
		b.d.Arm(0)
		pack.Guard(b.d.Sync)
		if b.a.Dead() || !b.d.Dead() {
			t.Errorf("%s: Dead: %v", name, b.a.Dead())
		}
		if zero, e := first(b); !zero || e != api.ErrCut {
			t.Errorf("%s: %d", name, e)
		}
		b.isDead(name, was)
	}
}

// isDead: each call of an archive whose power was cut.
func (b *box) isDead(what string, was []catalog.Entry) {
	b.t.Helper()
	d := b.d.Clone()
	for _, o := range []redo.Op{{Kind: redo.Create, N: 5}, written(1, 0, sector("y")), {Kind: redo.Delete, ID: 77}, {}} {
		if id, e := b.a.Do(o); id != 0 || e != api.ErrCut {
			b.t.Errorf("%s: Do: %d, %d", what, id, e)
		}
	}
	ran := false
	for i, e := range []api.Errno{b.a.Flush(), b.a.Checkpoint(), b.a.Change(func(*store.Store) { ran = true }), b.a.Change(nil)} {
		if e != api.ErrCut || ran {
			b.t.Errorf("%s: %d: %d", what, i, e)
		}
	}
	for _, id := range []uint32{1, 77} {
		if s, e := b.a.Read(id, 0, 1); s != "" || e != api.ErrCut {
			b.t.Errorf("%s: Read: %q, %d", what, s, e)
		}
		if sum, e := b.a.Sum(id); sum != (sha.Sum{}) || e != api.ErrCut {
			b.t.Errorf("%s: Sum: %s, %d", what, sum.Hex(), e)
		}
	}
	if l := b.a.Entries(); !slices.Equal(l, was) {
		b.t.Errorf("%s: Entries: %+v, not %+v", what, l, was)
	}
	if x, e := b.a.Info(1); e != api.OK || x != was[0] {
		b.t.Errorf("%s: Info: %+v, %d", what, x, e)
	}
	if _, e := b.a.Info(77); e != api.ErrNone {
		b.t.Errorf("%s: Info: %d", what, e)
	}
	if !b.a.Dead() || b.a.Store() == nil {
		b.t.Errorf("%s: alive again", what)
	}
	alike(b.t, what, b.d, d)
}

// P19.1: errors that aren't the power's don't end an archive, whatever they are called.
func TestNotDead(t *testing.T) {
	b := newBox(t, 100, 30, 256)
	b.create(5)
	for e := api.ErrForm; e <= api.ErrKind; e++ {
		b.refused("Change", e, func() api.Errno { return b.a.Change(func(*store.Store) { pack.Fail(e) }) })
	}
	b.d.Arm(2) // a Write of two sectors, no more
	if _, e := b.a.Do(written(9, 0, sector("x"))); e != api.ErrNone || b.a.Dead() {
		t.Errorf("Do: %d, Dead: %v", e, b.a.Dead())
	}
	b.create(5)
	b.works(b.a.Flush())
	if b.a.Dead() {
		t.Error("Dead")
	}
}

// K4: the same calls make the same disk, and the same answers.
func TestSame(t *testing.T) {
	run := func() (*disk.Disk, string) {
		p := newPlay(t, 5, 300, 12, 256, map[string]int{})
		told := strings.Builder{}
		for range 80 {
			told.WriteByte(byte('a' + p.one()))
		}
		return p.d, told.String()
	}
	d, x := run()
	c, y := run()
	alike(t, "the same calls", d, c)
	if x != y {
		t.Errorf("%s, not %s", x, y)
	}
}
