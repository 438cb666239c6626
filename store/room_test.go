package store_test

import (
	"fmt"
	"testing"

	"stereobate/api"
)

// P18.3: there is room for a Commit behind any calls, and for one more: of each few calls, with a Commit among
// them or with none, in a heap that is soon full.
func TestRoom(t *testing.T) {
	for _, heap := range []int{32, 33, 36, 47, 80} {
		for seed := range uint64(6) {
			for calls := range 30 {
				seen := map[string]int{}
				p := newPlay(t, seed, heap, 4, 256, seen)
				for n := range 4 * calls {
					p.one()
					if p.next(12) == 0 && n%2 == int(seed)%2 {
						p.commit()
					}
				}
				now := p.view()
				p.commit()
				p.commit()
				p.commit()
				p.is("Commit", now)
				p.again().is("Commit", now)
			}
		}
	}
}

// P18.3: as many volumes as there may be, in the least heap, of which just so many sectors are free as a catalog
// takes: Commit behind Commit, and behind calls that are refused.
func TestRoomLeast(t *testing.T) {
	b := newBox(t, 32, 4, 256)
	for i := range 16 {
		if id := b.made(b.s.Create(2048)); id != uint32(i+1) {
			t.Errorf("Create: %d", id)
		}
	}
	for i := range 5 {
		b.commit()
		if b.s.Heap.Free() != 16 || b.s.Heap.Held() != 16 {
			t.Errorf("%d sectors are free, %d are held", b.s.Heap.Free(), b.s.Heap.Held())
		}
		if e := b.s.Write(uint32(i+1), 0, sector("x")); e != api.ErrSpace {
			t.Errorf("Write: %d", e)
		}
		if id, e := b.s.Create(1); id != 0 || e != api.ErrFull {
			t.Errorf("Create: %d, %d", id, e)
		}
	}
	b.works(b.s.Delete(5))
	if id, e := b.s.Snapshot(1); id != 0 || e != api.ErrSpace {
		t.Errorf("Snapshot: %d, %d", id, e)
	}
	for i := range 14 {
		b.commit()
		b.works(b.s.Delete(b.s.Entries()[0].ID))
		b.works(b.s.Resize(16, 1+i))
	}
	b.works(b.s.Delete(16))
	b.commit()
	if b.s.Heap.Held() != 0 || b.s.Super.Head != 0 {
		t.Errorf("%v are held: %+v", b.s.Heap.All(), b.s.Super)
	}
}

// P18.3: of each number of volumes: full of extents, as many as there is room for; Commits, and full again.
func TestRoomFull(t *testing.T) {
	for volumes := 1; volumes <= 16; volumes++ {
		b := newBox(t, 150, 4, 256)
		b.made(b.s.Create(400))
		for range volumes - 1 {
			b.made(b.s.Clone(1))
		}
		next := noise(uint64(volumes))
		for range 4 {
			for at := 0; ; at++ {
				if e := b.s.Write(uint32(1+at%volumes), 4*(at%100), some(next, 256)); e == api.ErrSpace {
					break
				} else if e != api.OK {
					t.Fatalf("Write: %d", e)
				}
			}
			b.commit()
			b.commit()
		}
		for id := range uint32(volumes) {
			b.works(b.s.Delete(id + 1))
			b.commit()
		}
		if b.s.Heap.Free() != 150 {
			t.Errorf("%d volumes: %d sectors are free", volumes, b.s.Heap.Free())
		}
	}
}

// P18.4: what no volume has any more is free behind a Commit, and not ahead of it, where the checkpoint has it.
func TestFreed(t *testing.T) {
	b := newBox(t, 200, 4, 256)
	b.made(b.s.Create(40))
	b.fill(1, 0, 8, 1)
	b.commit()
	one := b.s.Heap.Held() // an entry, three nodes, two extents of five
	if one != 1+3+2*5 {
		t.Errorf("%d sectors are held", one)
	}
	b.made(b.s.Snapshot(1))
	b.commit()
	if n := b.s.Heap.Held(); n != one+1 { // the document's sixth example of the whole
		t.Errorf("behind a snapshot %d sectors are held", n)
	}
	b.fill(1, 0, 8, 2)
	b.commit()
	if n := b.s.Heap.Held(); n != one+1+13 {
		t.Errorf("behind a Write %d sectors are held", n)
	}
	free := b.s.Heap.Free()
	b.works(b.s.Delete(2))
	if b.s.Heap.Free() != free || b.s.Heap.Late() != 13 {
		t.Errorf("Delete: %d are free, %d are late", b.s.Heap.Free(), b.s.Heap.Late())
	}
	b.commit()
	if b.s.Heap.Held() != one || b.s.Heap.Free() != 200-one {
		t.Errorf("Commit: %v are held", b.s.Heap.All())
	}
	b.works(b.s.Delete(1))
	b.commit()
	if b.s.Heap.Held() != 0 || b.s.Heap.Free() != 200 {
		t.Errorf("Commit: %v are held", b.s.Heap.All())
	}
}

// P18.4: a snapshot of a volume with 500 extents takes one sector, behind a checkpoint; a hundred checkpoints
// take none.
func TestFreedAgain(t *testing.T) {
	b := newBox(t, 3900, 4, 256)
	b.made(b.s.Create(2000))
	for at := range 500 {
		b.works(b.s.Write(1, 4*at, sector(fmt.Sprint("extent ", at))))
	}
	b.commit()
	held := b.s.Heap.Held()
	b.made(b.s.Snapshot(1))
	for range 100 {
		b.commit()
		if b.s.Heap.Held() != held+1 {
			t.Fatalf("%d sectors are held, not %d", b.s.Heap.Held(), held+1)
		}
	}
	b.works(b.s.Delete(2))
	b.commit()
	if b.s.Heap.Held() != held {
		t.Errorf("%d sectors are held, not %d", b.s.Heap.Held(), held)
	}
}
