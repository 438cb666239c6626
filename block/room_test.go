package block_test

import (
	"testing"

	"stereobate/api"
	"stereobate/redo"
)

// P19.4: a Write of one extent has room as long as what all maps reach, the catalog, eight, and what the volumes
// leave free (two each, layer 16) aren't more sectors than the heap has: whatever was let go ahead of it, and
// with any journal, none of which knows of a checkpoint that it needs.
func TestRoom(t *testing.T) {
	refused, last := 0, 0
	for volumes := 1; volumes <= 16; volumes++ {
		for _, heap := range []int{50, 60, 90} {
			for _, journal := range []int{4, 300} {
				b := newBox(t, heap, journal, 256)
				for range volumes {
					b.create(60)
				}
				next := noise(uint64(volumes*heap + journal))
				for range 60 {
					o := written(uint32(1+next(volumes)), 4*next(15), some(next, 256))
					if next(4) == 0 {
						o = redo.Op{Kind: redo.Trim, ID: o.ID, At: next(30), N: next(30)}
					}
					was := len(b.reach())
					e := b.told(o)
					if e != api.OK && e != api.ErrSpace {
						t.Fatalf("Do: %d", e)
					}
					need := was + volumes + 8 + 2*volumes
					if e == api.ErrSpace && o.Kind == redo.Write {
						refused++
						if need <= heap {
							t.Fatalf("no room in %d sectors, of which %d are reached, with %d volumes", heap, was, volumes)
						}
					} else if e == api.OK && need == heap {
						last++
					}
				}
			}
		}
	}
	if refused < 500 || last < 20 {
		t.Errorf("%d refused, %d in the last room", refused, last)
	}
}

// P19.4: what was let go is there again, without a checkpoint that somebody asks for.
func TestRoomAgain(t *testing.T) {
	b := newBox(t, 80, 500, 256)
	b.create(20)
	for seed := range uint64(100) {
		b.fill(1, 0, 20, seed)
	}
	b.works(b.a.Flush())
	b.again().is("written over and over", b.view())
	for seed := range uint64(50) {
		id := b.create(20)
		b.do(redo.Op{Kind: redo.Delete, ID: id - 1})
		b.fill(id, 0, 20, seed)
	}
	b.again(whole(b.d)...).is("made over and over", b.view())
	if n := b.a.Store().Next(); n != 52 {
		t.Errorf("Next: %d", n)
	}
}
