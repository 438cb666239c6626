package space_test

import (
	"testing"

	"stereobate/api"
	"stereobate/pack"
	"stereobate/redo"
	"stereobate/space"
	"stereobate/store"
)

// P24.1: the document's example, and other numbers up to the greatest.
func TestMost(t *testing.T) {
	const great = 1 << 50
	for _, x := range []struct{ volumes, mapped, unlike, want int }{
		{1, 1, 1, 9},
		{0, 0, 0, 0},
		{1, 0, 0, 1},
		{0, 1, 0, 3},
		{0, 0, 1, 5},
		{7, 0, 0, 7},
		{0, 7, 0, 21},
		{0, 0, 7, 35},
		{2, 5, 2, 27},
		{16, 8192, 512, 16 + 24576 + 2560},
		{great, 0, 0, great},
		{0, great, 0, 3 * great},
		{0, 0, great, 5 * great},
		{great, great, great, 9 * great},
		{great - 1, great - 2, great - 3, 9*great - 22},
	} {
		if n := space.Most(x.volumes, x.mapped, x.unlike); n != x.want {
			t.Errorf("Most(%d, %d, %d): %d, not %d", x.volumes, x.mapped, x.unlike, n, x.want)
		}
	}
}

// P24.1: archives without volumes, of several sizes.
func TestNothing(t *testing.T) {
	for _, n := range []int{32, 33, 300, api.MaxDevice - 2 - journal} {
		b := newBox(t, n, 256)
		b.is("nothing", space.Usage{Heap: n, Free: n})
		b.checkpoint()
		b.is("nothing, behind a checkpoint", space.Usage{Heap: n, Free: n})
	}
}

// P24.1: what is counted, one behind the other, ahead of a checkpoint and behind it.
func TestKinds(t *testing.T) {
	b := newBox(t, 300, 256)
	b.create(600)
	b.is("no entry yet", space.Usage{Heap: 300, Free: 300, Volumes: 1})
	b.checkpoint()
	b.is("an entry", space.Usage{Heap: 300, Held: 1, Free: 299, Volumes: 1})
	b.write(1, 300, of("x", 4))
	b.is("four sectors, a head, three nodes", space.Usage{Heap: 300, Held: 9, Free: 291, Volumes: 1, Nodes: 3, Extents: 1, Parts: 4, Mapped: 1})
	b.checkpoint()
	b.is("that is the bound", space.Usage{Heap: 300, Held: space.Most(1, 1, 1), Free: 291, Volumes: 1, Nodes: 3, Extents: 1, Parts: 4, Mapped: 1})
	b.trim(1, 301, 2)
	b.is("two sectors are bytes 0: other nodes, another extent", space.Usage{Heap: 300, Held: 7, Late: 8, Free: 285, Volumes: 1, Nodes: 3, Extents: 1, Parts: 2, Mapped: 1})
	b.checkpoint()
	b.is("and what was late is free", space.Usage{Heap: 300, Held: 7, Free: 293, Volumes: 1, Nodes: 3, Extents: 1, Parts: 2, Mapped: 1})
	b.clone(1)
	b.snapshot(2)
	b.is("copies, whose entries don't lie there yet", space.Usage{Heap: 300, Held: 7, Free: 293, Volumes: 3, Nodes: 3, Extents: 1, Parts: 2, Mapped: 3})
	b.checkpoint()
	b.is("copies", space.Usage{Heap: 300, Held: 9, Free: 291, Volumes: 3, Nodes: 3, Extents: 1, Parts: 2, Mapped: 3})
	b.write(2, 304, of("y", 1))
	b.checkpoint()
	b.is("an extent below the node that was there", space.Usage{Heap: 300, Held: 3 + 6 + 2 + 3, Free: 286, Volumes: 3, Nodes: 6, Extents: 2, Parts: 3, Mapped: 4})
	b.write(2, 0, b.read(1, 300))
	b.checkpoint()
	b.is("the same extent below two nodes more", space.Usage{Heap: 300, Held: 3 + 8 + 2 + 3, Free: 284, Volumes: 3, Nodes: 8, Extents: 2, Parts: 3, Mapped: 5})
	b.delete(1)
	b.is("one goes, whose map another one has", space.Usage{Heap: 300, Held: 3 + 8 + 2 + 3, Free: 284, Volumes: 2, Nodes: 8, Extents: 2, Parts: 3, Mapped: 4})
	b.delete(3)
	b.is("that, too: three nodes are late", space.Usage{Heap: 300, Held: 3 + 5 + 2 + 3, Late: 3, Free: 284, Volumes: 1, Nodes: 5, Extents: 2, Parts: 3, Mapped: 3})
	b.delete(2)
	b.is("all go", space.Usage{Heap: 300, Held: 3, Late: 13, Free: 284})
	b.checkpoint()
	b.is("nothing is left", space.Usage{Heap: 300, Free: 300})
}

// read: the extent's bytes of a volume from a sector on.
func (b *box) read(id uint32, at int) string {
	b.t.Helper()
	s, e := b.a.Read(id, at, 4)
	b.works(e)
	return s
}

// P24.1, P24.2: the same extent written to ten volumes lies there once; so it does at many places of one.
func TestOnce(t *testing.T) {
	b := newBox(t, 300, 256)
	for range 10 {
		b.write(b.create(40), 8, of("x", 4))
	}
	b.checkpoint()
	b.is("ten volumes", space.Usage{Heap: 300, Held: 10 + 30 + 1 + 4, Free: 255, Volumes: 10, Nodes: 30, Extents: 1, Parts: 4, Mapped: 10})
	b.write(1, 0, of("x", 32))
	b.checkpoint()
	b.is("eight places", space.Usage{Heap: 300, Held: 10 + 30 + 1 + 4, Free: 255, Volumes: 10, Nodes: 30, Extents: 1, Parts: 4, Mapped: 17})
	b.write(1, 4, of("\x00", 4))
	b.write(1, 24, of("y", 1)+of("\x00", 3))
	b.checkpoint()
	b.is("noughts are nowhere", space.Usage{Heap: 300, Held: 10 + 30 + 2 + 5, Free: 253, Volumes: 10, Nodes: 30, Extents: 2, Parts: 5, Mapped: 16})
}

// P24.1: a snapshot of a volume with 500 extents takes one sector, behind a checkpoint.
func TestSnapshot(t *testing.T) {
	b := newBox(t, 3000, 256)
	b.create(2000)
	next := noise(1)
	for at := 0; at < 2000; at += 40 {
		b.write(1, at, some(next, 40))
	}
	u := b.checkpoint()
	want := space.Usage{Heap: 3000, Held: 1 + 72 + 2500, Free: 427, Volumes: 1, Nodes: 1 + 8 + 63, Extents: 500, Parts: 2000, Mapped: 500}
	if u != want {
		t.Fatalf("Of: %+v, not %+v", u, want)
	}
	for n := 1; n < api.MaxVolumes; n++ {
		b.snapshot(1)
		b.checkpoint()
		want.Held, want.Free, want.Volumes, want.Mapped = want.Held+1, want.Free-1, want.Volumes+1, want.Mapped+500
		b.is("a snapshot", want)
	}
}

// P24.1: the greatest maps, all of whose nodes are there; each place of a map.
func TestGreat(t *testing.T) {
	b := newBox(t, 1500, 256)
	b.create(2048)
	for at := 0; at < 2048; at += 32 {
		b.write(1, at, of(string([]byte{byte(1 + at/32)}), 32))
	}
	b.clone(1)
	b.write(2, 2047, of("\x00", 1))
	b.checkpoint()
	b.is("great maps", space.Usage{Heap: 1500, Held: 2 + 76 + 65 + 64*4 + 3, Free: 1500 - 402, Volumes: 2, Nodes: 73 + 3, Extents: 65, Parts: 64*4 + 3, Mapped: 1024})
	for at := 0; at < 512; at += 37 {
		b := newBox(t, 100, 256)
		b.create(2048)
		b.write(1, 4*at+at%4, of("x", 1))
		b.checkpoint()
		b.is("one place", space.Usage{Heap: 100, Held: 6, Free: 94, Volumes: 1, Nodes: 3, Extents: 1, Parts: 1, Mapped: 1})
	}
}

// P24.1: of an extent each of its sectors counts that isn't all bytes 0.
func TestParts(t *testing.T) {
	for n := 1; n < 16; n++ {
		b := newBox(t, 100, 256)
		b.create(4)
		parts := 0
		for i := range 4 {
			if n>>i&1 == 1 {
				b.write(1, i, of("x", 1))
				parts++
			}
		}
		b.checkpoint()
		b.is("parts", space.Usage{Heap: 100, Held: 5 + parts, Free: 95 - parts, Volumes: 1, Nodes: 3, Extents: 1, Parts: parts, Mapped: 1})
	}
}

// P24.2: a call that was refused holds nothing; nor does what a Change undid.
func TestRefused(t *testing.T) {
	b := newBox(t, 60, 256)
	b.create(2000)
	b.write(1, 0, some(noise(1), 12))
	u := b.checkpoint()
	for _, o := range []redo.Op{
		{Kind: redo.Write, ID: 1, At: 100, Data: some(noise(2), 60)},
		{Kind: redo.Write, ID: 1, At: 1999, Data: of("x", 2)},
		{Kind: redo.Write, ID: 2, Data: of("x", 2)},
		{Kind: redo.Create},
		{Kind: redo.Resize, ID: 1, N: 2049},
		{Kind: 99},
	} {
		if _, e := b.a.Do(o); e == api.OK {
			t.Fatalf("Do of kind %d works", o.Kind)
		}
		b.settled("a call that was refused")
		b.is("a call that was refused", u)
	}
	if e := b.a.Change(func(s *store.Store) {
		b.works(s.Write(1, 200, of("z", 4)))
		b.works(s.Delete(1))
		pack.Fail(api.ErrBase)
	}); e != api.ErrBase {
		t.Fatalf("Change: %d", e)
	}
	b.is("a change that was undone", u)
}

// P24.1: it may be asked within a Change, of what there is then.
func TestWithin(t *testing.T) {
	b := newBox(t, 100, 256)
	b.works(b.a.Change(func(s *store.Store) {
		b.is("nothing", space.Usage{Heap: 100, Free: 100})
		if _, e := s.Create(9); e != api.OK {
			t.Fatalf("Create: %d", e)
		}
		b.works(s.Write(1, 3, of("x", 2)))
		b.is("two extents, and the nodes that had one", space.Usage{Heap: 100, Held: 3 + 4, Late: 3, Free: 90, Volumes: 1, Nodes: 3, Extents: 2, Parts: 2, Mapped: 2})
	}))
	b.settled("behind it")
}
