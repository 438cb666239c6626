package tree_test

import (
	"slices"
	"testing"

	"stereobate/api"
	"stereobate/pack"
	"stereobate/redo"
	"stereobate/store"
	"stereobate/tree"
)

// P25.1: the document's example.
func TestExample(t *testing.T) {
	b := newBox(t, 100)
	b.create()
	b.clone(1)
	b.clone(2)
	b.all("ahead of it", tree.Node{ID: 1}, tree.Node{ID: 2, Depth: 1}, tree.Node{ID: 3, Depth: 2})
	b.gone(2)
	b.all("the example", tree.Node{ID: 1}, tree.Node{ID: 3})
	b.kids("the example", 0, 1, 3)
	b.kids("the example", 1)
	b.kids("the example", 2)
	b.line("the example", 3, []uint32{3})
	b.holds("the example")
}

// P25.1: an archive without volumes.
func TestNothing(t *testing.T) {
	b := newBox(t, 100)
	b.holds("no volumes")
	b.all("no volumes")
	b.kids("no volumes", 0)
	for _, id := range []uint32{0, 1, 1 << 31, 1<<32 - 1} {
		b.none("no volumes", id)
		b.kids("no volumes", id)
	}
}

// P25.1: all calls of a family.
func TestFamily(t *testing.T) {
	b := family(t)
	b.holds("a family")
	b.all("a family", tree.Node{ID: 1}, tree.Node{ID: 3, Depth: 1}, tree.Node{ID: 4, Depth: 2}, tree.Node{ID: 5, Depth: 3}, tree.Node{ID: 6, Depth: 1},
		tree.Node{ID: 2}, tree.Node{ID: 7, Depth: 1})
	b.kids("a family", 0, 1, 2)
	b.kids("a family", 1, 3, 6)
	b.kids("a family", 3, 4)
	b.kids("a family", 5)
	b.line("a family", 5, []uint32{1, 3, 4, 5})
	b.line("a family", 1, []uint32{1})
	b.line("a family", 7, []uint32{2, 7})
	for _, x := range []struct {
		id, top uint32
		want    bool
	}{{5, 1, true}, {5, 5, true}, {5, 4, true}, {4, 5, false}, {5, 6, false}, {6, 1, true}, {7, 1, false}, {1, 0, false}, {0, 0, false}, {8, 1, false}, {8, 8, false}, {1, 8, false}} {
		if tree.Under(b.a, x.id, x.top) != x.want {
			t.Errorf("Under(%d, %d)", x.id, x.top)
		}
	}
	b.holds("a family")
	b.again().holds("behind a crash")
}

// P25.1: one in the midst goes: what stood just below it stands at the top, with all below that; numbers aren't given
// again, so it stays there.
func TestGone(t *testing.T) {
	for id := range uint32(7) {
		b := family(t)
		b.gone(id + 1)
		b.holds("one is gone")
		b.none("one is gone", id+1)
		b.create()
		b.clone(8)
		b.holds("and others come")
		b.works(b.a.Checkpoint())
		b.holds("behind a checkpoint")
		b.again().holds("behind Mount")
	}
	b := family(t)
	b.gone(3)
	b.all("3 is gone", tree.Node{ID: 1}, tree.Node{ID: 6, Depth: 1}, tree.Node{ID: 2}, tree.Node{ID: 7, Depth: 1}, tree.Node{ID: 4}, tree.Node{ID: 5, Depth: 1})
	b.gone(1, 4)
	b.all("and 1, and 4", tree.Node{ID: 2}, tree.Node{ID: 7, Depth: 1}, tree.Node{ID: 5}, tree.Node{ID: 6})
}

// P25.1, P25.2: as many volumes as there may be: a long line, and all below one.
func TestFull(t *testing.T) {
	line, wide := newBox(t, 200), newBox(t, 200)
	line.create()
	wide.create()
	for id := uint32(1); id < api.MaxVolumes; id++ {
		line.clone(id)
		wide.clone(1)
	}
	line.holds("a line")
	wide.holds("all below one")
	if l, _ := tree.Line(line.a, 16); len(l) != 16 || l[0] != 16 || l[15] != 1 {
		t.Errorf("Line: %v", l)
	}
	if l := tree.Kids(wide.a, 1); len(l) != 15 {
		t.Errorf("Kids: %v", l)
	}
	line.prunes(1, -1, 0, 16, 15, 14, 13, 12, 11, 10, 9, 8, 7, 6, 5, 4, 3, 2, 1)
	wide.prunes(1, -1, 0, 16, 15, 14, 13, 12, 11, 10, 9, 8, 7, 6, 5, 4, 3, 2, 1)
	line.all("all are gone")
	wide.holds("all are gone")
}

// P25.1: a volume and all below it go, from the last one to the first; all others stay as they stand.
func TestPrune(t *testing.T) {
	for _, x := range []struct {
		id   uint32
		want []uint32
	}{{1, []uint32{6, 5, 4, 3, 1}}, {2, []uint32{7, 2}}, {3, []uint32{5, 4, 3}}, {4, []uint32{5, 4}}, {5, []uint32{5}}, {6, []uint32{6}}, {7, []uint32{7}}} {
		b := family(t)
		b.prunes(x.id, -1, 0, x.want...)
		b.holds("behind Prune")
		b.none("behind Prune", x.id)
		if n := len(b.a.Entries()); n != 7-len(x.want) {
			t.Errorf("Prune(%d): %d are left", x.id, n)
		}
		b.works(b.a.Flush())
		b.again().holds("behind a crash")
	}
}

// P25.1: the first error that a drop answers ends it: how many there were ahead; the others aren't dropped.
func TestPruneError(t *testing.T) {
	order := []uint32{6, 5, 4, 3, 1}
	for which := range order {
		for e := api.ErrForm; e <= api.ErrKind+1; e++ {
			b := family(t)
			b.prunes(1, which, e, order[:which+1]...)
			if n := len(b.a.Entries()); n != 7-which {
				t.Errorf("%d are left", n)
			}
			b.holds("behind an error")
			b.prunes(1, -1, 0, order[which:]...)
			b.holds("and once more")
		}
	}
}

// P25.1: of a number that no volume has nothing is dropped, whoever would do it.
func TestPruneNone(t *testing.T) {
	b := family(t)
	b.gone(3)
	b.quiet(func() {
		for _, id := range []uint32{0, 3, 8, 1 << 31, 1<<32 - 1} {
			b.none("no such volume", id)
			if n, e := tree.Prune(b.a, id, nil); n != 0 || e != api.ErrNone {
				t.Errorf("Prune(%d): %d, %d", id, n, e)
			}
		}
	})
}

// P1: it doesn't panic without a drop; nothing goes.
func TestPruneNil(t *testing.T) {
	b := family(t)
	b.quiet(func() {
		if _, e := tree.Prune(b.a, 1, nil); e != api.OK {
			t.Errorf("Prune: %d", e)
		}
	})
}

// P25.1: what goes is what stood there when it began, also if a drop makes others.
func TestPruneMeanwhile(t *testing.T) {
	b := family(t)
	made := false
	n, e := tree.Prune(b.a, 1, func(id uint32) api.Errno {
		if !made {
			made = true
			b.clone(3)
		}
		return b.delete(id)
	})
	if n != 5 || e != api.OK {
		t.Errorf("Prune: %d, %d", n, e)
	}
	b.all("one came", tree.Node{ID: 2}, tree.Node{ID: 7, Depth: 1}, tree.Node{ID: 8})
	b.holds("one came")
}

// P25.1: without power: what there is is told as before; a Prune ends with the drop's error, and behind Mount those are
// gone that were ahead of it, if that was flushed.
func TestCut(t *testing.T) {
	for n := range 30 {
		b := family(t)
		b.works(b.a.Checkpoint())
		b.d.Arm(n)
		ahead, e := tree.Prune(b.a, 1, func(id uint32) api.Errno {
			if e := b.delete(id); e != api.OK {
				return e
			}
			return b.a.Flush()
		})
		left := len(b.a.Entries())
		if e == api.OK {
			if ahead != 5 || left != 2 || n < 10 {
				t.Errorf("%d calls: Prune: %d, %d are left", n, ahead, left)
			}
			break
		}
		if e != api.ErrCut || !b.a.Dead() || ahead != n/2 || left > 7-ahead {
			t.Fatalf("%d calls: Prune: %d, %d, %d are left", n, ahead, e, left)
		}
		b.copies = map[uint32]uint32{}
		for _, x := range b.a.Entries() {
			b.copies[x.ID] = x.Parent
		}
		b.holds("without power")
		m := b.again()
		m.holds("behind Mount")
		if now := len(m.a.Entries()); now > 7-ahead || now < 7-ahead-1 {
			t.Errorf("%d calls: %d ahead, %d are left", n, ahead, now)
		}
	}
}

// P25.1: it hangs on the archive as it is now, also within a Change, also if that is undone.
func TestWithin(t *testing.T) {
	b := family(t)
	e := b.a.Change(func(s *store.Store) {
		b.works(s.Delete(3))
		b.kids("within a change", 0, 1, 2, 4)
		pack.Fail(api.ErrBase)
	})
	if e != api.ErrBase {
		t.Fatalf("Change: %d", e)
	}
	b.holds("a change that was undone")
}

// P25.1: sizes, and what volumes have, don't matter.
func TestChanged(t *testing.T) {
	b := family(t)
	b.do(redo.Op{Kind: redo.Resize, ID: 1, N: 2000})
	b.do(redo.Op{Kind: redo.Write, ID: 4, At: 2, Data: string(make([]byte, 63)) + "x"})
	b.do(redo.Op{Kind: redo.Resize, ID: 4, N: 1})
	b.holds("volumes that have changed")
}

// K3: what was told stays as it is, and what is done with it changes no other answer.
func TestApart(t *testing.T) {
	b := family(t)
	kids, all := tree.Kids(b.a, 1), tree.All(b.a)
	line, _ := tree.Line(b.a, 5)
	wasKids, wasAll, wasLine := slices.Clone(kids), slices.Clone(all), slices.Clone(line)
	b.gone(3, 5)
	b.clone(1)
	b.holds("behind other calls")
	if !slices.Equal(kids, wasKids) || !slices.Equal(all, wasAll) || !slices.Equal(line, wasLine) {
		t.Errorf("the answers have changed: %v, %v, %v", kids, all, line)
	}
	kids, all = tree.Kids(b.a, 1), tree.All(b.a)
	line, _ = tree.Line(b.a, 6)
	_ = append(kids[:1], 99)
	kids[0], all[0], line[0] = 77, tree.Node{ID: 66, Depth: 6}, 55
	b.holds("behind a change of the answers")
}

// P25.1, P25.2: any volumes, behind any ops.
func TestModel(t *testing.T) {
	deep, pruned := 0, 0
	for seed := range uint64(16) {
		next := noise(seed)
		b := newBox(t, 200)
		for range 60 {
			var l []uint32
			for _, x := range b.a.Entries() {
				l = append(l, x.ID)
			}
			full := len(l) == api.MaxVolumes
			switch n := next(20); {
			case len(l) == 0 || n < 2 && !full:
				b.create()
			case n < 15 && !full:
				b.copy(l[next(len(l))], n)
			case n < 18:
				b.gone(l[next(len(l))])
			case n == 18:
				b = b.again()
			default:
				pruned += b.pruneAny(l[next(len(l))], next)
			}
			b.holds("behind any ops")
			for _, x := range tree.All(b.a) {
				deep = max(deep, x.Depth)
			}
		}
	}
	if deep < 5 || pruned < 50 {
		t.Errorf("%d deep at most, %d pruned", deep, pruned)
	}
}

// copy: of a volume, one to be read only or not.
func (b *box) copy(id uint32, n int) {
	b.t.Helper()
	if n%2 == 0 {
		b.clone(id)
	} else {
		b.snapshot(id)
	}
}

// pruneAny: a volume and all below it go, or some; how many of these there are.
func (b *box) pruneAny(id uint32, next func(int) int) int {
	b.t.Helper()
	var want []uint32
	for _, p := range b.paths() {
		if slices.Contains(p, id) {
			want = append(want, p[len(p)-1])
		}
	}
	slices.Reverse(want)
	n := len(want)
	if which := next(2 * n); which < n {
		b.prunes(id, which, api.ErrSpace, want[:which+1]...)
	} else {
		b.prunes(id, -1, 0, want...)
	}
	return n
}
