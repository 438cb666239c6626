package track_test

import (
	"testing"

	"stereobate/api"
	"stereobate/redo"
)

// sizes: of volumes, so few that often two have one.
var sizes = []int{10, 41, 41, 300}

// change: some op, whatever it answers.
func (b *box) change(next func(int) int) {
	b.t.Helper()
	l := b.a.Entries()
	if len(l) == 0 {
		b.create(sizes[next(len(sizes))])
		return
	}
	x := l[next(len(l))]
	o := redo.Op{ID: x.ID, At: next(x.Size)}
	most := min(x.Size-o.At, 20)
	switch n := next(20); {
	case n == 0:
		o.Kind, o.N = redo.Create, sizes[next(len(sizes))]
	case n < 3:
		o.Kind = redo.Snapshot
	case n < 6:
		o.Kind = redo.Clone
	case n < 8:
		o.Kind = redo.Resize
		o.N = sizes[next(len(sizes))]
	case n < 10:
		o.Kind, o.N = redo.Trim, next(most+1)
	case n == 10 || len(l) > 6:
		o.Kind = redo.Delete
	case n < 15:
		o.Kind, o.Data = redo.Write, some(next, 1+next(most))
	default: // bytes that others have at that place, too
		o.Kind, o.Data = redo.Write, of(string([]byte{byte('a' + next(2))}), 1+next(most))
	}
	if _, e := b.a.Do(o); e != api.OK && e != api.ErrOnly && e != api.ErrSpace && e != api.ErrClash && e != api.ErrFull {
		b.t.Fatalf("Do of %d: %d", o.Kind, e)
	}
}

// pairs: what is told of each two volumes is so; how many are others.
func (b *box) pairs() int {
	b.t.Helper()
	n := 0
	l := b.a.Entries()
	for i, x := range l {
		for _, y := range l[:i+1] {
			switch {
			case x.Size != y.Size:
				b.refused("another size", x.ID, y.ID, api.ErrSize)
			case b.holds("a pair", x.ID, y.ID) > 0:
				n++
			}
		}
	}
	return n
}

// P20.1, P20.2: volumes behind any ops, in much room and in little, with addresses of few bits too, and behind Mount.
func TestModel(t *testing.T) {
	n := 0
	for seed := range uint64(24) {
		next := noise(seed)
		b := newBox(t, []int{150, 400, 1500}[seed%3], []int{256, 256, 256, 3, 5, 8}[seed/4%6])
		for range 60 {
			b.change(next)
			n += b.pairs()
			switch next(12) {
			case 0:
				b.works(b.a.Checkpoint())
			case 1:
				b.works(b.a.Flush())
			case 2:
				b = b.again()
			}
		}
	}
	if n < 2000 {
		t.Errorf("%d pairs alone are others", n)
	}
}
