package space_test

import (
	"testing"

	"stereobate/api"
	"stereobate/redo"
)

// sizes: of volumes.
var sizes = []int{1, 10, 41, 600, 2048}

// change: some op, whatever it answers: its error.
func (b *box) change(next func(int) int) api.Errno {
	l := b.a.Entries()
	if len(l) == 0 {
		_, e := b.a.Do(redo.Op{Kind: redo.Create, N: sizes[next(len(sizes))]})
		return e
	}
	x := l[next(len(l))]
	o := redo.Op{ID: x.ID, At: next(x.Size)}
	most := min(x.Size-o.At, 20)
	switch n := next(24); {
	case n == 0:
		o.Kind, o.N = redo.Create, sizes[next(len(sizes))]
	case n < 3:
		o.Kind = redo.Snapshot
	case n < 6:
		o.Kind = redo.Clone
	case n < 8:
		o.Kind, o.N = redo.Resize, sizes[next(len(sizes))]
	case n < 10:
		o.Kind, o.N = redo.Trim, next(most+1)
	case n == 10 || len(l) > 6 && n < 16:
		o.Kind = redo.Delete
	case n < 17: // what others have, too
		o.Kind, o.Data = redo.Write, of(string([]byte{byte(next(3))}), 1+next(most))
	default:
		o.Kind, o.Data = redo.Write, some(next, 1+next(most))
	}
	_, e := b.a.Do(o)
	if e != api.OK && e != api.ErrOnly && e != api.ErrSpace && e != api.ErrClash && e != api.ErrFull && !b.a.Dead() {
		b.t.Fatalf("Do of %d: %d", o.Kind, e)
	}
	return e
}

// P24.1 to P24.3: behind any ops, checkpoints, and Mount, in heaps with and without room, with long addresses and
// short ones.
func TestModel(t *testing.T) {
	seen := map[api.Errno]int{}
	late := 0
	for seed := range uint64(24) {
		next := noise(seed)
		b := newBox(t, []int{32, 120, 400, 1500}[seed%4], []int{256, 256, 6}[seed%3])
		for range 120 {
			seen[b.change(next)]++
			switch next(12) {
			case 0:
				b.checkpoint()
			case 1:
				b.works(b.a.Flush())
			case 2:
				b = b.again()
				b.settled("behind Mount")
			}
			late = max(late, b.holds("behind any ops").Late)
		}
		b.checkpoint()
		for _, x := range b.a.Entries() {
			b.delete(x.ID)
			b.checkpoint()
		}
		if u := b.checkpoint(); u.Free != u.Heap {
			t.Fatalf("without volumes: %+v", u)
		}
	}
	for _, e := range []api.Errno{api.OK, api.ErrOnly, api.ErrSpace, api.ErrClash} {
		if seen[e] < 10 {
			t.Errorf("%d: %d times alone", e, seen[e])
		}
	}
	if late < 30 {
		t.Errorf("%d are late at most", late)
	}
}

// P24.2: wherever the power is cut, within whichever call, and whatever is torn: behind Mount nothing is held that no
// volume has.
func TestModelCut(t *testing.T) {
	n := 0
	for seed := range uint64(60) {
		next := noise(100 + seed)
		b := newBox(t, []int{100, 500}[seed%2], 256)
		b.create(sizes[next(len(sizes))])
		b.d.Arm(next(250))
		for b.change(next) != api.ErrCut && !b.a.Dead() {
			if next(9) == 0 && b.a.Checkpoint() == api.ErrCut {
				break
			}
		}
		if !b.a.Dead() {
			t.Fatal("no cut")
		}
		b.refused("behind a cut", api.ErrCut)
		var cuts []int
		for range b.d.Loose() {
			cuts = append(cuts, []int{0, 64, next(65)}[next(3)])
		}
		b.d.Crash(cuts...)
		u := over(t, b.d).settled("behind Mount")
		n += u.Held
	}
	if n < 1000 {
		t.Errorf("%d are held in all", n)
	}
}
