package ship_test

import (
	"testing"

	"stereobate/api"
	"stereobate/catalog"
	"stereobate/pack"
	"stereobate/redo"
	"stereobate/ship"
	"stereobate/store"
)

// P22.1: the document's example: 77 bytes, of which none says anything but the size.
func TestExample(t *testing.T) {
	b := newBox(t, 200, 256)
	b.create(10)
	if text := b.exported(0, 1); text != sealed("SBDF\x01\x00\x0a"+none+none+"\x00\x00") || len(text) != 77 {
		t.Errorf("Export: % x", text)
	}
	b.is("the example", 0, 1)
}

// P22.1: of nothing, of another one, of itself; both ways.
func TestExport(t *testing.T) {
	b := newBox(t, 400, 256)
	b.create(30)
	b.write(1, 5, some(noise(1), 11))
	b.clone(1)
	b.write(2, 6, of("x", 1))
	b.write(2, 29, of("y", 1))
	b.trim(2, 8, 4)
	b.snapshot(2)
	b.create(30)
	for _, c := range []struct {
		from, to uint32
		items    int
	}{{0, 1, 3}, {0, 2, 3}, {0, 3, 3}, {0, 4, 0}, {1, 2, 3}, {2, 1, 3}, {1, 3, 3}, {3, 1, 3}, {2, 3, 0}, {4, 1, 3}, {1, 4, 3}, {1, 1, 0}, {3, 3, 0}, {4, 4, 0}} {
		if n := b.is("volumes", c.from, c.to); n != c.items {
			t.Errorf("Export(%d, %d): %d items, not %d", c.from, c.to, n, c.items)
		}
	}
	b.works(b.a.Checkpoint())
	b.is("behind a checkpoint", 1, 2)
	b.again().is("behind Mount", 1, 2)
}

// P22.1: extents of which the volume hasn't all sectors, and far ones.
func TestExportSizes(t *testing.T) {
	for _, size := range []int{1, 2, 3, 4, 5, 7, 8, 9, 33, 257, 2045, 2046, 2047, 2048} {
		b := newBox(t, 300, 256)
		b.create(size)
		b.write(1, size-1, of("x", 1))
		b.clone(1)
		b.write(2, 0, of("y", 1))
		b.write(2, size/2, of("z", 1))
		b.clone(2)
		b.trim(3, size-1, 1)
		for _, ids := range [][2]uint32{{0, 1}, {0, 2}, {0, 3}, {1, 2}, {2, 1}, {2, 3}, {3, 2}, {1, 3}} {
			b.is("a size", ids[0], ids[1])
		}
	}
}

// P22.1: all extents of the greatest volume.
func TestExportAll(t *testing.T) {
	b := newBox(t, 1200, 256)
	b.create(2048)
	b.create(2048)
	for at := 0; at < 2048; at += 32 {
		b.write(1, at, of("x", 32))
		b.write(2, at, of("y", 32))
	}
	b.create(2048)
	for _, ids := range [][2]uint32{{0, 1}, {1, 2}, {2, 3}} {
		if n := b.is("all", ids[0], ids[1]); n != 512 {
			t.Errorf("%d items", n)
		}
	}
}

// P22.1: volumes that aren't there; with from 0, to alone is asked for.
func TestExportNone(t *testing.T) {
	b := newBox(t, 300, 256)
	b.refused("no volumes", 0, 1, api.ErrNone)
	b.refused("no volumes", 0, 0, api.ErrNone)
	b.create(30)
	b.create(30)
	b.delete(2)
	for _, id := range []uint32{0, 2, 3, 1 << 31, 1<<32 - 1} {
		b.refused("no volume to", 1, id, api.ErrNone)
		b.refused("no volume to", 0, id, api.ErrNone)
		b.refused("neither", id, id, api.ErrNone)
		if id != 0 {
			b.refused("no volume from", id, 1, api.ErrNone)
		}
	}
}

// P22.1: sizes that aren't the same.
func TestExportSize(t *testing.T) {
	b := newBox(t, 300, 256)
	b.create(30)
	for _, n := range []int{1, 29, 31, 32, 2048} {
		id := b.create(n)
		b.refused("another size", 1, id, api.ErrSize)
		b.refused("another size", id, 1, api.ErrSize)
		b.is("of nothing", 0, id)
	}
}

// P22.1, K2: behind a cut of the power within a call of the archive all is ErrCut, ahead of all other errors, even if
// there is power again; Import likewise, whatever bytes it is handed; behind Mount it isn't.
func TestAllCut(t *testing.T) {
	b := newBox(t, 300, 256)
	b.create(30)
	b.clone(1)
	b.write(1, 9, of("x", 12))
	b.create(31)
	b.snapshot(2)
	text := b.exported(2, 1)
	b.works(b.a.Flush())
	for n := range 12 {
		c := over(t, b.d.Clone())
		c.d.Arm(n)
		for c.a.Checkpoint() == api.OK {
		}
		for range 2 {
			for _, id := range []uint32{0, 1, 2, 3, 4, 9} {
				c.refused("a cut", 0, id, api.ErrCut)
				c.refused("a cut", 1, id, api.ErrCut)
				c.refused("a cut", id, 1, api.ErrCut)
				for _, s := range []string{"", "no stream", text[1:], text} {
					if e := ship.Import(c.a, id, s); e != api.ErrCut {
						t.Errorf("Import(%d): %d", id, e)
					}
				}
			}
			c.d.Crash()
		}
		c = over(t, c.d)
		c.is("behind Mount", 2, 1)
		c.imports("behind Mount", 2, text, c.read(1))
	}
}

// P22.1: a cut of the power beside the archive, also where no sector needs to be read, and no bytes are taken.
func TestCutBeside(t *testing.T) {
	for i := range 4 {
		b := newBox(t, 300, 256)
		b.create(30)
		b.clone(1)
		b.write(1, 9, of("x", 12))
		b.works(b.a.Checkpoint())
		text := b.exported(2, 1)
		b.d.Arm(0)
		if e := pack.Guard(b.d.Sync); e != api.ErrCut || b.a.Dead() {
			t.Fatalf("Sync: %d", e)
		}
		for _, id := range []uint32{0, 1, 2, 9} {
			b.refused("without power", 0, id, api.ErrCut)
			b.refused("without power", id, 1, api.ErrCut)
			if e := ship.Import(b.a, id, []string{text, "no stream", "", text[1:]}[i]); e != api.ErrCut {
				t.Errorf("Import(%d): %d", id, e)
			}
		}
		b.d.Crash()
		over(t, b.d).is("behind Mount", 1, 2)
	}
}

// P22.1: what is spoilt of what is read is told; what both have isn't looked at.
func TestExportSpoilt(t *testing.T) {
	b := newBox(t, 300, 256)
	b.create(600)
	b.write(1, 20, some(noise(1), 8))
	b.write(1, 300, some(noise(2), 8))
	b.clone(1)
	b.write(2, 300, of("x", 1))
	b.works(b.a.Checkpoint())
	maps := b.a.Store().Maps
	var nodes, old, young, both []int
	b.works(b.a.Store().Heap.Try(func() {
		for _, id := range []uint32{1, 2} {
			x, _ := b.a.Info(id)
			kids := maps.Load(x.Root, 2).Kids
			nodes = append(nodes, x.Root, kids[1], maps.Load(kids[1], 1).Kids[1])
			both = append(both, kids[0], maps.Load(kids[0], 1).Kids[0], maps.Get(x.Root, 5))
			young = append(maps.Extents.Parts(maps.Get(x.Root, 75)), maps.Get(x.Root, 75))
			if id == 1 {
				old = young
			}
		}
	}))
	for _, at := range nodes {
		b.spoil(at)
		b.refused("a node", 1, 2, api.ErrSum)
		b.refused("a node", 2, 1, api.ErrSum)
		b.spoil(at)
	}
	for _, at := range old {
		want := b.exported(1, 2)
		b.spoil(at)
		b.refused("an extent", 2, 1, api.ErrSum)
		b.refused("an extent", 0, 1, api.ErrSum)
		if b.exported(1, 2) != want {
			t.Error("what isn't read is spoilt")
		}
		b.spoil(at)
	}
	for _, at := range young {
		b.spoil(at)
		b.refused("an extent", 1, 2, api.ErrSum)
		b.spoil(at)
	}
	for _, at := range both {
		want := b.exported(1, 2)
		b.spoil(at)
		b.refused("what both have, of nothing", 0, 2, api.ErrSum)
		if b.exported(1, 2) != want {
			t.Error("what isn't read is spoilt")
		}
		b.spoil(at)
	}
	b.spoil(nodes[0])
	b.refused("a root, whose digest is read", 1, 1, api.ErrSum)
	b.refused("no volume, a node", 1, 9, api.ErrNone)
	b.create(601)
	b.refused("another size, a node", 1, 3, api.ErrSize)
	b.spoil(nodes[0])
	b.is("all is whole again", 1, 2)
}

// P22.1: a map that lay there already, and has more than its volume, as no call leaves it: no stream says that.
func TestExportBehindLast(t *testing.T) {
	b := newBox(t, 300, 256)
	b.create(20)
	b.write(1, 0, some(noise(1), 20))
	b.clone(1)
	b.write(2, 9, of("x", 1))
	b.works(b.a.Checkpoint())
	for size, want := range map[int][3]api.Errno{20: {}, 17: {api.ErrForm}, 16: {api.ErrForm}, 11: {api.ErrForm, api.ErrForm, api.ErrForm}, 8: {api.ErrForm, api.ErrForm, api.ErrForm}, 12: {api.ErrForm}} {
		c := over(t, b.d.Clone())
		for at := c.a.Store().Super.Head; at != 0; {
			c.works(pack.Guard(func() {
				x, next := catalog.Parse(c.d.Read(at))
				x.Size = size
				c.d.Write(at, x.Bytes(next))
				c.d.Sync()
				at = next
			}))
		}
		c = over(t, c.d)
		for i, ids := range [][2]uint32{{0, 2}, {1, 2}, {2, 1}} {
			text, e := c.export(ids[0], ids[1])
			if e != want[i] || (text == "") != (e != api.OK) {
				t.Errorf("Export%v of size %d: %d bytes, %d, not %d", ids, size, len(text), e, want[i])
			}
		}
	}
}

// P22.1: an Export within a Change tells what volumes have there.
func TestExportWithin(t *testing.T) {
	b := newBox(t, 300, 256)
	b.create(30)
	b.clone(1)
	was, want := b.exported(1, 2), ""
	e := b.a.Change(func(s *store.Store) {
		b.works(redoOf(s, redo.Op{Kind: redo.Write, ID: 2, At: 3, Data: of("x", 2)}))
		want = b.exported(1, 2)
		pack.Fail(api.ErrKind)
	})
	if e != api.ErrKind || b.exported(1, 2) != was {
		t.Errorf("Change: %d", e)
	}
	if want != between(noughts(30*64), patched(noughts(30*64), 3, of("x", 2))) {
		t.Error("Export within a Change")
	}
}

func redoOf(s *store.Store, o redo.Op) api.Errno {
	_, e := o.Do(s.Core)
	return e
}
