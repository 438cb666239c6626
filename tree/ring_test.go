package tree_test

import (
	"slices"
	"testing"

	"stereobate/api"
	"stereobate/catalog"
	"stereobate/pack"
	"stereobate/super"
	"stereobate/tree"
)

// laid: an archive that lay there, whose catalog says whose copies volumes are: of each its number, and that.
func laid(t *testing.T, l ...[2]uint32) *box {
	t.Helper()
	b := newBox(t, 2*len(l)+40)
	next := 0
	heap := 2 + journal
	for i, x := range slices.Backward(l) {
		b.lay(heap+i, catalog.Entry{ID: x[0], Parent: x[1], Size: 5}.Bytes(next))
		next = heap + i
	}
	b.super(super.Super{Epoch: b.a.Store().Super.Epoch + 1, Journal: journal, Bits: 256, Head: next, Next: 9})
	return over(t, b.d)
}

// super: a super lies there, sure.
func (b *box) super(s super.Super) {
	b.t.Helper()
	b.works(pack.Guard(func() { s.Write(b.d); b.d.Sync() }))
}

// fully: what holds of any tree: all is there once, each right behind all that stands ahead of it there, and calls
// say the same as each other.
func (b *box) fully(what string) {
	b.t.Helper()
	var ids, all []uint32
	for _, x := range b.a.Entries() {
		ids = append(ids, x.ID)
	}
	var way []uint32
	for _, x := range tree.All(b.a) {
		all = append(all, x.ID)
		if x.Depth < 0 || x.Depth > len(way) {
			b.t.Fatalf("%s: %d is %d deep, behind %v", what, x.ID, x.Depth, way)
		}
		way = append(way[:x.Depth:x.Depth], x.ID)
		b.line(what, x.ID, way)
		if l := tree.Kids(b.a, x.ID); !slices.IsSorted(l) {
			b.t.Fatalf("%s: Kids(%d): %v", what, x.ID, l)
		}
		up := uint32(0)
		if x.Depth > 0 {
			up = way[x.Depth-1]
		}
		if !slices.Contains(tree.Kids(b.a, up), x.ID) {
			b.t.Fatalf("%s: %d stands below %d, but isn't among its kids", what, x.ID, up)
		}
	}
	slices.Sort(all)
	if !slices.Equal(all, ids) {
		b.t.Fatalf("%s: All has %v of %v", what, all, ids)
	}
}

// P25.1, P25.2, P1: volumes that are copies of each other, as no call leaves them: each line has an end, and all are
// there once.
func TestRings(t *testing.T) {
	for _, x := range []struct {
		what string
		l    [][2]uint32
		want []tree.Node
	}{
		{"its own copy", [][2]uint32{{1, 1}}, []tree.Node{{ID: 1}}},
		{"its own copy, with others", [][2]uint32{{1, 2}, {2, 2}, {3, 2}}, []tree.Node{{ID: 2}, {ID: 1, Depth: 1}, {ID: 3, Depth: 1}}},
		{"two", [][2]uint32{{1, 2}, {2, 1}}, []tree.Node{{ID: 1}, {ID: 2, Depth: 1}}},
		{"three", [][2]uint32{{4, 7}, {7, 8}, {8, 4}}, []tree.Node{{ID: 4}, {ID: 8, Depth: 1}, {ID: 7, Depth: 2}}},
		{"three the other way", [][2]uint32{{4, 8}, {7, 4}, {8, 7}}, []tree.Node{{ID: 4}, {ID: 7, Depth: 1}, {ID: 8, Depth: 2}}},
		{"others below a ring", [][2]uint32{{1, 3}, {2, 3}, {3, 2}, {5, 1}}, []tree.Node{{ID: 2}, {ID: 3, Depth: 1}, {ID: 1, Depth: 2}, {ID: 5, Depth: 3}}},
		{"two rings", [][2]uint32{{1, 4}, {2, 3}, {3, 2}, {4, 1}}, []tree.Node{{ID: 1}, {ID: 4, Depth: 1}, {ID: 2}, {ID: 3, Depth: 1}}},
	} {
		b := laid(t, x.l...)
		b.fully(x.what)
		b.all(x.what, x.want...)
		for _, n := range slices.Backward(x.want) {
			if n.Depth == 0 {
				var ids []uint32
				for _, m := range tree.All(b.a) {
					if tree.Under(b.a, m.ID, n.ID) {
						ids = append(ids, m.ID)
					}
				}
				slices.Reverse(ids)
				b.prunes(n.ID, -1, 0, ids...)
				b.fully("behind Prune")
			}
		}
		b.all("all are gone")
	}
}

// P25.1, P25.2: any copies of each other.
func TestRingsModel(t *testing.T) {
	for seed := range uint64(200) {
		next := noise(seed)
		n := 1 + next(12)
		var l [][2]uint32
		for id := 1; id <= n; id++ {
			l = append(l, [2]uint32{uint32(id), uint32(next(n + 2))})
		}
		b := laid(t, l...)
		b.fully("any")
		for _, x := range l {
			ups, ring := b.ups(x[0])
			up := uint32(0)
			if line, _ := tree.Line(b.a, x[0]); len(line) > 1 {
				up = line[1]
			}
			want := ups[0]
			if ring && slices.Min(ups) == x[0] { // of a ring the least one stands at the top
				want = 0
			}
			if up != want {
				t.Fatalf("%v: %d stands below %d, not %d", l, x[0], up, want)
			}
		}
	}
}

// ups: whose copy a volume is, whose that is, and so on, until it comes round to it, or there is none, or it has taken
// more steps than there are volumes; does it come round to it?
func (b *box) ups(id uint32) ([]uint32, bool) {
	var l []uint32
	at := id
	for range b.copies {
		at = b.copies[at]
		if _, ok := b.copies[at]; !ok {
			return append(l, 0), false
		}
		l = append(l, at)
		if at == id {
			return l, true
		}
	}
	return l, false
}

// P25.1: a copy with a lesser number than the one whose copy it is, as there is behind the greatest number.
func TestRound(t *testing.T) {
	b := newBox(t, 100)
	b.super(super.Super{Epoch: b.a.Store().Super.Epoch + 1, Journal: journal, Bits: 256, Next: 1<<32 - 2})
	b = over(t, b.d)
	const last = 1<<32 - 1
	for _, id := range []uint32{b.create(), b.clone(last - 1), b.clone(last), b.snapshot(1), b.clone(last)} {
		b.line("round", id, b.path(id))
	}
	b.fully("round")
	b.all("round", tree.Node{ID: last - 1}, tree.Node{ID: last, Depth: 1}, tree.Node{ID: 1, Depth: 2}, tree.Node{ID: 2, Depth: 3}, tree.Node{ID: 3, Depth: 2})
	b.kids("round", last, 1, 3)
	b.holds("round")
	b.prunes(last, -1, 0, 3, 2, 1, last)
	b.all("behind Prune", tree.Node{ID: last - 1})
}

// P1: very many volumes, as no call makes them, in a line, up or down, or a ring: it ends soon.
func TestVeryMany(t *testing.T) {
	const n = 1500
	for _, step := range []uint32{1<<32 - 1, 1} {
		for _, closed := range []bool{false, true} {
			var l [][2]uint32
			for id := uint32(1); id <= n; id++ {
				up := id + step
				if closed && (up == 0 || up > n) {
					up = n + 1 - id
				}
				l = append(l, [2]uint32{id, up})
			}
			b := laid(t, l...)
			all := tree.All(b.a)
			if len(all) != n || all[n-1].Depth != n-1 {
				t.Errorf("All: %d, the last one: %v", len(all), all[len(all)-1])
			}
			line, e := tree.Line(b.a, all[n-1].ID)
			if e != api.OK || len(line) != n || line[n-1] != all[0].ID {
				t.Errorf("Line: %d, %d", len(line), e)
			}
		}
	}
}
