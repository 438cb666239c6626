package scrub_test

import (
	"slices"
	"testing"

	"stereobate/api"
	"stereobate/pack"
	"stereobate/scrub"
	"stereobate/store"
)

// P23.1: the document's example: of an archive without volumes.
func TestExample(t *testing.T) {
	b := newBox(t, 200, 256)
	b.is("without volumes", 0)
	for at := range b.d.Len() {
		b.spoil(at, 5, 1)
	}
	b.is("nothing is looked at", 0)
}

// P23.2: nothing is spoilt; it looks at all that is held, at each once, however many want it.
func TestWhole(t *testing.T) {
	b := newBox(t, 300, 256)
	b.create(600)
	b.works(b.a.Checkpoint())
	b.is("an entry", 1)
	b.write(1, 300, of("x", 4))
	b.works(b.a.Checkpoint())
	b.is("an entry, three nodes, an extent of four sectors and its head", 9)
	b.write(1, 301, of("\x00", 2))
	b.works(b.a.Checkpoint())
	b.is("two sectors are noughts", 7)
	b.clone(1)
	b.clone(1)
	b.works(b.a.Checkpoint())
	b.is("copies", 9)
	b.write(2, 4, of("x", 1)+of("\x00", 2)+of("x", 1))
	b.works(b.a.Checkpoint())
	b.is("the same extent below other nodes", 9+3)
	b.write(3, 3, of("y", 1))
	b.works(b.a.Checkpoint())
	b.is("another extent below others", 12+3+2)
	b.whole("all")
	b.again().whole("behind Mount")
}

// P23.2: the greatest volumes, all of whose nodes are there.
func TestWholeGreat(t *testing.T) {
	b := newBox(t, 1500, 256)
	b.create(2048)
	for at := 0; at < 2048; at += 32 {
		b.write(1, at, of(string([]byte{byte(1 + at/32)}), 32))
	}
	b.clone(1)
	b.write(2, 2047, of("\x00", 1))
	b.works(b.a.Checkpoint())
	b.is("great volumes", 2+1+8+64+64*5+3+4)
	b.whole("great volumes")
	for _, at := range []int{b.catalog()[1], b.entry(2).Root, b.kid(b.kid(b.kid(b.entry(2).Root, 7), 7), 7)} {
		b.spoil(at, 3, 3)
	}
	if l := b.holds("a few are spoilt"); len(l) != 2 { // nobody comes to the head below the root
		t.Errorf("%v are spoilt", l)
	}
}

// P23.2: each byte of each sector that is held, by each of its bits, and by all: just that sector is spoilt.
func TestEachByte(t *testing.T) {
	b := sample(t)
	b.whole("the sample")
	for _, at := range b.a.Store().Heap.All() {
		for by := range 64 {
			for _, with := range []byte{1, 2, 4, 8, 16, 32, 64, 128, 255} {
				b.works(pack.Guard(func() { b.d.Spoil(at, by, with) }))
				if l, n, e := scrub.Scrub(b.a); e != api.OK || n < 1 || len(l) != 1 || l[0] != at {
					t.Fatalf("byte %d of %d: Scrub: %v, %d, %d", by, at, l, n, e)
				}
				b.works(pack.Guard(func() { b.d.Spoil(at, by, with) }))
			}
		}
		b.spoil(at, 7, 0)
		b.whole("a byte is as it was")
		b.spoil(at, 7, 1)
		b.holds("a byte")
		b.spoil(at, 7, 1)
	}
}

// P23.2: what isn't held isn't looked at: slots, journal, free sectors, late ones.
func TestNotHeld(t *testing.T) {
	b := sample(t)
	b.write(1, 0, of("w", 9))
	b.write(2, 300, noughts(4*64))
	b.delete(3)
	held := b.a.Store().Heap.All()
	if b.a.Store().Heap.Late() < 5 {
		t.Errorf("%d are late", b.a.Store().Heap.Late())
	}
	b.whole("not committed")
	for at := range b.d.Len() {
		if !slices.Contains(held, at) {
			b.spoil(at, at%64, 0x11)
		}
	}
	b.whole("what isn't held is spoilt")
}

// P23.1: the catalog is that of the last checkpoint, the volumes are those that there are now.
func TestNotCommitted(t *testing.T) {
	b := sample(t)
	entries := b.catalog()
	old := b.reach(5)
	b.delete(5)
	b.delete(4)
	b.create(30)
	b.write(6, 3, of("v", 2))
	for i, at := range entries {
		b.spoil(at, 30, 1)
		b.is("an entry of the last checkpoint", b.a.Store().Heap.Held()-len(entries)+i+1, at)
		b.spoil(at, 30, 1)
	}
	young := b.reach(6)
	for _, at := range young {
		b.spoil(at, 30, 1)
		b.holds("a young one")
		if l, _, _ := b.scrub(); !slices.Equal(l, []int{at}) {
			t.Errorf("%d: Scrub: %v", at, l)
		}
		b.spoil(at, 30, 1)
	}
	for _, at := range old {
		if !slices.Contains(b.reach(1), at) {
			b.spoil(at, 30, 1)
			b.whole("what a volume had that is gone")
		}
	}
	b.works(b.a.Change(func(s *store.Store) { b.works(s.Delete(6)) }))
	b.whole("behind a Change")
}

// P23.1: behind an entry that is spoilt no other one is looked at; all volumes are.
func TestEntries(t *testing.T) {
	b := sample(t)
	l := b.catalog()
	below := b.a.Store().Heap.Held() - len(l)
	for i, at := range l {
		b.spoil(at, 9, 9)
		b.is("an entry", below+i+1, at)
		for _, behind := range l[i+1:] {
			b.spoil(behind, 9, 9)
		}
		b.is("an entry, and all behind it", below+i+1, at)
		root := b.entry(2).Root
		b.spoil(root, 60, 1)
		if bad := b.holds("an entry, and a root"); len(bad) != 2 {
			t.Errorf("%v are spoilt", bad)
		}
		b.spoil(root, 60, 1)
		for _, at := range l[i:] {
			b.spoil(at, 9, 9)
		}
	}
	b.whole("whole again")
}

// P23.1: below what is spoilt nothing is looked at, but what is reached by another way.
func TestBelow(t *testing.T) {
	b := sample(t)
	root := b.entry(1).Root
	one, two := b.kid(root, 0), b.kid(root, 1)
	zero := b.kid(one, 0)
	head := b.kid(zero, 0)
	all := b.a.Store().Heap.Held()
	for _, x := range []struct {
		at, less int // how many nobody comes to then
	}{
		{head, 4},
		{b.kid(head, 2), 0},
		{zero, 3 + 4 + 4 + 1}, // three extents of four, four sectors and one
		{one, 3 + 4 + 4 + 1 + 1},
		{two, 1}, // a node: what lies below that others have, too
	} {
		b.spoil(x.at, 44, 2)
		b.is("below", all-x.less, x.at)
		b.holds("below")
		b.spoil(x.at, 44, 2)
	}
	for _, id := range []uint32{1, 2} {
		at := b.entry(id).Root
		b.spoil(at, 44, 2)
		b.holds("a root")
		b.spoil(at, 44, 2)
	}
	x := b.kid(b.kid(b.kid(b.entry(5).Root, 0), 0), 0) // what volume 1 has, too
	for _, at := range []int{b.entry(5).Root, b.kid(b.entry(5).Root, 0), b.kid(b.kid(b.entry(5).Root, 0), 0)} {
		b.spoil(at, 1, 1)
		b.spoil(x, 1, 1)
		if l := b.holds("an extent that is reached by another way"); !slices.Contains(l, x) || len(l) != 2 {
			t.Errorf("%v are spoilt", l)
		}
		b.spoil(at, 1, 1)
		b.spoil(x, 1, 1)
	}
	b.whole("whole again")
}

// P23.1: many that are spoilt: rising, each once.
func TestMany(t *testing.T) {
	b := sample(t)
	next := noise(5)
	held := b.a.Store().Heap.All()
	most := 0
	for range 400 {
		var l []int
		for range 1 + next(12) {
			l = append(l, held[next(len(held))])
		}
		for _, at := range l {
			b.spoil(at, at%64, 0x21)
		}
		most = max(most, len(b.holds("many")))
		for _, at := range l {
			b.spoil(at, at%64, 0x21)
		}
	}
	if most < 6 {
		t.Errorf("%d at most", most)
	}
	for _, at := range held {
		if s := b.on(at); s[0] != 'N' && s[0] != 'E' && s[0] != 'V' {
			b.spoil(at, 2, 2)
		}
	}
	if l := b.holds("all extents' sectors"); len(l) < 15 {
		t.Errorf("%v are spoilt", l)
	}
}

// P23.1: what is there is looked at, be it sure or not.
func TestLoose(t *testing.T) {
	b := sample(t)
	at := b.entry(1).Root
	was := b.on(at)
	b.works(pack.Guard(func() { b.d.Write(at, "x") }))
	b.holds("written, not sure")
	if l, _, _ := b.scrub(); !slices.Equal(l, []int{at}) {
		t.Errorf("Scrub: %v", l)
	}
	b.works(pack.Guard(func() { b.d.Sync(); b.d.Write(at, was) }))
	b.whole("whole, and not sure")
}

// P23.1, K2: behind a cut of the power within a call of the archive it is ErrCut, even if there is power again, and
// whatever is spoilt; behind Mount it isn't.
func TestCut(t *testing.T) {
	b := sample(t)
	for n := range 9 {
		c := over(t, b.d.Clone())
		c.d.Arm(n)
		for c.a.Checkpoint() == api.OK {
		}
		if !c.a.Dead() {
			t.Fatal("no cut")
		}
		for range 2 {
			if l, n, e := c.scrub(); e != api.ErrCut || l != nil || n != 0 {
				t.Errorf("Scrub: %v, %d, %d", l, n, e)
			}
			c.d.Crash()
		}
		c.spoil(c.entry(1).Root, 1, 1)
		if l, n, e := c.scrub(); e != api.ErrCut || l != nil || n != 0 {
			t.Errorf("Scrub: %v, %d, %d", l, n, e)
		}
		c.spoil(c.entry(1).Root, 1, 1)
		over(t, c.d).whole("behind Mount")
	}
}

// P23.1: a cut of the power beside the archive, also of one without volumes.
func TestCutBeside(t *testing.T) {
	for _, b := range []*box{sample(t), newBox(t, 100, 256)} {
		b.d.Arm(0)
		if e := pack.Guard(b.d.Sync); e != api.ErrCut {
			t.Fatalf("Sync: %d", e)
		}
		if l, n, e := b.scrub(); e != api.ErrCut || l != nil || n != 0 || b.a.Dead() {
			t.Errorf("Scrub: %v, %d, %d", l, n, e)
		}
		b.d.Crash()
		over(t, b.d).whole("behind Mount")
	}
}

// K3: what was told stays as it is, and what is done with it changes no other answer.
func TestApart(t *testing.T) {
	b := sample(t)
	b.spoil(b.entry(1).Root, 1, 1)
	one, n, _ := b.scrub()
	one[0] = 7
	b.is("another answer", n, b.entry(1).Root)
	two, _, _ := b.scrub()
	b.spoil(b.entry(1).Root, 1, 1)
	b.whole("whole again")
	if two[0] != b.entry(1).Root {
		t.Errorf("the answer has changed: %v", two)
	}
}
