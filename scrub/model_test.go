package scrub_test

import (
	"slices"
	"testing"

	"stereobate/api"
	"stereobate/redo"
)

// sizes: of volumes.
var sizes = []int{1, 10, 41, 600}

// change: some op, whatever it answers.
func (b *box) change(next func(int) int) {
	l := b.a.Entries()
	if len(l) == 0 {
		b.create(sizes[next(len(sizes))])
		return
	}
	x := l[next(len(l))]
	o := redo.Op{ID: x.ID, At: next(x.Size)}
	most := min(x.Size-o.At, 20)
	switch n := next(20); {
	case n == 0:
		o.Kind, o.N = redo.Create, sizes[next(len(sizes))]
	case n < 3:
		o.Kind = redo.Snapshot
	case n < 6:
		o.Kind = redo.Clone
	case n < 8:
		o.Kind, o.N = redo.Resize, sizes[next(len(sizes))]
	case n < 10:
		o.Kind, o.N = redo.Trim, next(most+1)
	case n == 10 || len(l) > 6:
		o.Kind = redo.Delete
	default:
		o.Kind, o.Data = redo.Write, some(next, 1+next(most))
	}
	if _, e := b.a.Do(o); e != api.OK && e != api.ErrOnly && e != api.ErrSpace && e != api.ErrClash && e != api.ErrFull {
		b.t.Fatalf("Do of %d: %d", o.Kind, e)
	}
}

// P23.2, P9: behind any ops, and Mount: nothing is spoilt; and of what is spoilt then each is told that is looked at.
func TestModel(t *testing.T) {
	n := 0
	for seed := range uint64(16) {
		next := noise(seed)
		b := newBox(t, []int{120, 400, 1500}[seed%3], []int{256, 256, 6, 256}[seed%4])
		for range 60 {
			b.change(next)
			switch next(12) {
			case 0:
				b.works(b.a.Checkpoint())
			case 1:
				b.works(b.a.Flush())
			case 2:
				b = b.again()
			}
			b.whole("behind any ops")
			held := b.a.Store().Heap.All()
			if len(held) == 0 {
				continue
			}
			at, by, with := held[next(len(held))], next(64), byte(1+next(255))
			b.spoil(at, by, with)
			if l := b.holds("one is spoilt"); !slices.Equal(l, []int{at}) {
				t.Fatalf("%d: %v are spoilt", at, l)
			}
			n++
			b.spoil(at, by, with)
		}
	}
	if n < 500 {
		t.Errorf("%d times alone", n)
	}
}
