package track_test

import (
	"testing"

	"stereobate/api"
	"stereobate/pack"
	"stereobate/redo"
	"stereobate/store"
	"stereobate/track"
)

func deleted(id uint32) redo.Op {
	return redo.Op{Kind: redo.Delete, ID: id}
}

// P20.1: volumes that aren't there.
func TestNone(t *testing.T) {
	b := newBox(t, 300, 256)
	b.quiet(func() { b.refused("no volumes", 1, 1, api.ErrNone) })
	b.create(30)
	b.create(30)
	b.do(deleted(2))
	b.quiet(func() {
		for _, id := range []uint32{0, 2, 3, 1 << 31, 1<<32 - 1} {
			b.refused("no volume to", 1, id, api.ErrNone)
			b.refused("no volume from", id, 1, api.ErrNone)
			b.refused("neither", id, id, api.ErrNone)
			b.refused("neither", id, id+7, api.ErrNone)
		}
	})
}

// P20.1: sizes that aren't the same, of as many extents and of others, with the same bytes and with others.
func TestSize(t *testing.T) {
	b := newBox(t, 300, 256)
	b.create(30)
	for _, n := range []int{1, 29, 31, 32, 33, 2048} {
		id := b.create(n)
		b.quiet(func() {
			b.refused("another size", 1, id, api.ErrSize)
			b.refused("another size", id, 1, api.ErrSize)
		})
		b.write(id, 0, of("x", 1))
		b.quiet(func() { b.refused("another size", 1, id, api.ErrSize) })
		b.resize(id, 30)
		b.is("the same size", 1, id, []int{0}, []track.Range{{At: 0, N: 4}})
	}
	b.do(deleted(1))
	b.refused("gone", 1, 2, api.ErrNone)
}

// cuts: calls of an archive within which the power is cut.
func cuts() map[string]func(b *box) api.Errno {
	return map[string]func(b *box) api.Errno{
		"Do": func(b *box) api.Errno {
			_, e := b.a.Do(redo.Op{Kind: redo.Write, ID: 1, Data: of("z", 1)})
			return e
		},
		"Flush":      func(b *box) api.Errno { return b.a.Flush() },
		"Checkpoint": func(b *box) api.Errno { return b.a.Checkpoint() },
		"Change": func(b *box) api.Errno {
			return b.a.Change(func(s *store.Store) {
				if e := s.Trim(1, 0, 30); e != api.OK {
					pack.Fail(e)
				}
			})
		},
	}
}

// P20.1, K2: behind a cut of the power within a call of the archive all is ErrCut, ahead of all other errors, even
// if there is power again; behind Mount it isn't.
func TestCut(t *testing.T) {
	for what, call := range cuts() {
		for n := 0; ; n++ {
			b := newBox(t, 300, 256)
			b.create(30)
			b.clone(1)
			b.write(1, 9, of("x", 12))
			b.create(31)
			b.works(b.a.Flush())
			b.d.Arm(n)
			e := call(b)
			if e == api.OK {
				if n == 0 {
					t.Errorf("%s works without power", what)
				}
				break
			}
			if e != api.ErrCut || !b.a.Dead() {
				t.Fatalf("%s: %d", what, e)
			}
			for range 2 {
				for _, id := range []uint32{0, 1, 2, 3, 9} {
					b.refused(what, 1, id, api.ErrCut)
					b.refused(what, id, 1, api.ErrCut)
				}
				b.d.Crash()
			}
			b = over(t, b.d)
			if b.holds(what, 1, 2) == 0 {
				t.Errorf("%s: nothing is another one behind Mount", what)
			}
		}
	}
}

// P20.1: a cut of the power beside the archive, also where no sector needs to be read.
func TestCutBeside(t *testing.T) {
	b := newBox(t, 300, 256)
	b.create(30)
	b.clone(1)
	b.write(1, 9, of("x", 12))
	b.works(b.a.Checkpoint())
	b.d.Arm(0)
	if e := pack.Guard(b.d.Sync); e != api.ErrCut || b.a.Dead() {
		t.Fatalf("Sync: %d", e)
	}
	for _, id := range []uint32{0, 1, 2, 9} {
		b.refused("without power", 1, id, api.ErrCut)
	}
	b.d.Crash()
	b = over(t, b.d)
	b.holds("behind Mount", 1, 2)
}

// P20.1: a node that is spoilt, below which there is an extent that is another one, is told; what both have isn't
// looked at, nor are extents.
func TestSpoilt(t *testing.T) {
	b := newBox(t, 300, 256)
	b.create(600)
	b.write(1, 20, some(noise(1), 8))
	b.write(1, 300, some(noise(2), 8))
	b.clone(1)
	b.write(2, 300, of("x", 1))
	b.works(b.a.Checkpoint())
	x, _ := b.a.Info(1)
	y, _ := b.a.Info(2)
	maps := b.a.Store().Maps
	var apart, both, extents []int
	b.works(b.a.Store().Heap.Try(func() {
		apart = []int{x.Root, y.Root}
		for _, root := range apart {
			kids := maps.Load(root, 2).Kids
			apart = append(apart, kids[1], maps.Load(kids[1], 1).Kids[1])
			both = append(both, kids[0], maps.Load(kids[0], 1).Kids[0])
			extents = append(extents, maps.Get(root, 5), maps.Get(root, 75))
			extents = append(extents, maps.Extents.Parts(maps.Get(root, 75))...)
		}
	}))
	want, ranges := []int{75}, []track.Range{{At: 300, N: 4}}
	for _, at := range apart {
		b.spoil(at)
		b.quiet(func() {
			b.refused("a node that is spoilt", 1, 2, api.ErrSum)
			b.refused("a node that is spoilt", 2, 1, api.ErrSum)
		})
		b.spoil(at)
		b.is("a node that is whole again", 1, 2, want, ranges)
	}
	for _, at := range append(both, extents...) {
		b.spoil(at)
		b.is("what isn't looked at is spoilt", 1, 2, want, ranges)
		b.spoil(at)
	}
	b.spoil(x.Root)
	b.is("a volume and itself", 1, 1, nil, nil)
	b.spoil(x.Root)
	b.spoil(y.Root)
	b.create(601)
	b.refused("another size, a node that is spoilt", 2, 3, api.ErrSize)
	b.refused("no volume, a node that is spoilt", 2, 9, api.ErrNone)
}

// P20.1: maps that lay there, and have more than the volumes, as no call leaves them: sectors alone are told that
// the volumes have.
func TestBehindLast(t *testing.T) {
	b := newBox(t, 300, 256)
	b.create(40)
	b.write(1, 0, some(noise(1), 40))
	b.clone(1)
	for _, at := range []int{3, 6, 17, 38} {
		b.write(2, at, of("x", 1))
	}
	b.works(b.a.Checkpoint())
	for size, want := range map[int][]track.Range{
		40: {{At: 0, N: 8}, {At: 16, N: 4}, {At: 36, N: 4}}, 20: {{At: 0, N: 8}, {At: 16, N: 4}}, 17: {{At: 0, N: 8}, {At: 16, N: 1}},
		16: {{At: 0, N: 8}}, 8: {{At: 0, N: 8}}, 5: {{At: 0, N: 5}}, 4: {{At: 0, N: 4}}, 1: {{At: 0, N: 1}},
	} {
		c := over(t, b.d.Clone())
		for _, id := range []uint32{1, 2} {
			x, at, next := c.entry(id)
			x.Size = size
			c.lay(at, x.Bytes(next))
		}
		over(t, c.d).is("maps that have more", 1, 2, []int{0, 1, 4, 9}, want)
	}
}
