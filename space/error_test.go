package space_test

import (
	"slices"
	"testing"

	"stereobate/api"
	"stereobate/catalog"
	"stereobate/extent"
	"stereobate/node"
	"stereobate/pack"
	"stereobate/redo"
	"stereobate/space"
	"stereobate/store"
)

// sample: an archive with volumes that have much in common, of which all was committed.
func sample(t *testing.T) *box {
	t.Helper()
	b := newBox(t, 300, 256)
	b.create(600)
	b.write(1, 0, some(noise(1), 9))
	b.write(1, 300, of("x", 4)+of("\x00", 1)+of("y", 3))
	b.write(1, 599, some(noise(2), 1))
	b.clone(1)
	b.write(2, 301, of("z", 1))
	b.snapshot(2)
	b.create(9)
	b.create(5)
	b.write(5, 0, of("x", 4)) // as volume 1 has
	b.checkpoint()
	return b
}

// cuts: calls of an archive within which the power is cut.
func cuts() map[string]func(b *box) api.Errno {
	return map[string]func(b *box) api.Errno{
		"Do": func(b *box) api.Errno {
			_, e := b.a.Do(redo.Op{Kind: redo.Write, ID: 1, Data: of("z", 1)})
			return e
		},
		"Flush":      func(b *box) api.Errno { return b.a.Flush() },
		"Checkpoint": func(b *box) api.Errno { return b.a.Checkpoint() },
		"Change": func(b *box) api.Errno {
			return b.a.Change(func(s *store.Store) {
				if e := s.Trim(1, 0, 30); e != api.OK {
					pack.Fail(e)
				}
			})
		},
	}
}

// P24.1, K2: behind a cut of the power within a call of the archive it is ErrCut, even if there is power again, and
// whatever is spoilt; behind Mount it isn't.
func TestCut(t *testing.T) {
	b := sample(t)
	for what, call := range cuts() {
		for n := 0; ; n++ {
			c := over(t, b.d.Clone())
			c.d.Arm(n)
			e := call(c)
			if e == api.OK {
				if n == 0 {
					t.Errorf("%s works without power", what)
				}
				break
			}
			if e != api.ErrCut || !c.a.Dead() {
				t.Fatalf("%s: %d", what, e)
			}
			c.refused(what, api.ErrCut)
			c.d.Crash()
			c.refused(what+", power again", api.ErrCut)
			root := c.entry(5).Root
			c.spoil(root, 1, 1)
			c.refused(what+", a node that is spoilt", api.ErrCut)
			c.spoil(root, 1, 1)
			over(t, c.d).settled("behind Mount")
		}
	}
}

// P24.1: a cut of the power beside the archive, also of one without volumes.
func TestCutBeside(t *testing.T) {
	for _, b := range []*box{sample(t), newBox(t, 100, 256)} {
		b.d.Arm(0)
		if e := pack.Guard(b.d.Sync); e != api.ErrCut || b.a.Dead() {
			t.Fatalf("Sync: %d", e)
		}
		b.refused("without power", api.ErrCut)
		b.d.Crash()
		over(t, b.d).settled("behind Mount")
	}
}

// kinds: of each held sector what it is, by its first byte: a node, a head, an entry, or of an extent.
func (b *box) kinds() map[byte][]int {
	b.t.Helper()
	m := map[byte][]int{}
	for _, at := range b.a.Store().Heap.All() {
		kind := b.on(at)[0]
		if kind != 'N' && kind != 'E' && kind != 'V' {
			kind = 'P'
		}
		m[kind] = append(m[kind], at)
	}
	return m
}

// P24.1: a node, or head, that is spoilt is told, whichever volume has it; entries and extents' sectors aren't read.
func TestSpoilt(t *testing.T) {
	b := sample(t)
	u := b.holds("the sample")
	kinds := b.kinds()
	if len(kinds['V']) != u.Volumes || len(kinds['N']) != u.Nodes || len(kinds['E']) != u.Extents || len(kinds['P']) != u.Parts {
		t.Fatalf("%v: %+v", kinds, u)
	}
	for kind, l := range kinds {
		for _, at := range l {
			for _, by := range []int{0, 1, 2, 17, 30, 49, 59, 60, 63} {
				b.spoil(at, by, 0x10)
				if kind == 'N' || kind == 'E' {
					b.refused("a sector that is spoilt", api.ErrSum)
				} else {
					b.is("a sector that isn't read is spoilt", u)
				}
				b.spoil(at, by, 0x10)
			}
		}
	}
	b.is("whole again", u)
}

// P24.1: what isn't held isn't read: slots, journal, free sectors, late ones.
func TestNotHeld(t *testing.T) {
	b := sample(t)
	b.write(1, 0, of("w", 9))
	b.delete(5)
	u := b.holds("not committed")
	if u.Late < 4 {
		t.Errorf("%d are late", u.Late)
	}
	held := b.a.Store().Heap.All()
	for at := range b.d.Len() {
		if !slices.Contains(held, at) {
			b.spoil(at, at%64, 0x11)
		}
	}
	b.is("what isn't held is spoilt", u)
}

// P24.1: a sector whose sum is right, and that is none of what it should be.
func TestOtherKind(t *testing.T) {
	b := sample(t)
	u := b.holds("the sample")
	kinds := b.kinds()
	level := func(n int) string { return node.Node{Level: n}.Bytes() }
	others := []string{level(3), b.on(kinds['V'][0]), catalog.Entry{ID: 1, Size: 5}.Bytes(0)}
	for _, at := range append(kinds['N'], kinds['E']...) {
		was := b.on(at)
		wrong := slices.Clone(others)
		if was[0] == 'N' {
			wrong = append(wrong, extent.Head{}.Bytes(), level(int(was[1])+1), level((int(was[1])+2)%3))
		} else {
			wrong = append(wrong, level(0), level(1), level(2))
		}
		for _, s := range wrong {
			b.lay(at, s)
			b.refused("another kind", api.ErrForm)
		}
		b.lay(at, of("\x00", 1))
		b.refused("bytes 0", api.ErrSum)
		b.lay(at, was)
	}
	b.is("whole again", u)
}

// P24.1, P1: a sector that is reached as one of another level is spoilt there, though it was counted as what it is; a
// node that has itself below it has an end.
func TestOtherLevel(t *testing.T) {
	b := newBox(t, 300, 256)
	b.create(600)
	b.write(1, 0, some(noise(1), 9))
	b.clone(1)
	b.checkpoint()
	root := b.entry(1).Root
	kid := told(b.d, root, 2, 8)[0]
	low := told(b.d, kid, 2, 8)[0]
	head := told(b.d, low, 2, 8)[0]
	last := b.catalog()[1]
	for _, at := range []int{kid, low, head} {
		c := &box{t, b.d.Clone(), nil}
		c.lay(last, catalog.Entry{ID: 2, Size: 600, Root: at}.Bytes(0))
		over(t, c.d).refused("a root of another level", api.ErrForm)
	}
	for _, x := range []struct {
		at   int
		node node.Node
	}{
		{root, node.Node{Level: 2, Kids: [8]int{kid, root}}},
		{root, node.Node{Level: 2, Kids: [8]int{kid, low}}},
		{root, node.Node{Level: 2, Kids: [8]int{kid, head}}},
		{kid, node.Node{Level: 1, Kids: [8]int{low, kid}}},
		{kid, node.Node{Level: 1, Kids: [8]int{low, root}}},
		{low, node.Node{Level: 0, Kids: [8]int{head, low}}},
		{low, node.Node{Level: 0, Kids: [8]int{head, root}}},
	} {
		was := b.on(x.at)
		b.lay(x.at, x.node.Bytes())
		b.refused("a kid of another level", api.ErrForm)
		b.lay(x.at, was)
	}
	b.settled("whole again")
}

// P24.1: maps that lay there, as no call leaves them: of one that has more than its volume all counts; a node below
// many kids, and a head at many places, count once; a root without kids is a node.
func TestOddMaps(t *testing.T) {
	b := newBox(t, 300, 256)
	b.create(600)
	b.write(1, 0, some(noise(1), 32))
	b.checkpoint()
	root := b.entry(1).Root
	kid := told(b.d, root, 2, 8)[0]
	low := told(b.d, kid, 2, 8)[0]
	heads := told(b.d, low, 2, 8)
	l := b.catalog()
	b.lay(l[0], catalog.Entry{ID: 1, Size: 1, Root: root}.Bytes(0))
	over(t, b.d.Clone()).is("more than the volume", space.Usage{Heap: 300, Held: 1 + 3 + 8 + 32, Free: 256, Volumes: 1, Nodes: 3, Extents: 8, Parts: 32, Mapped: 8})
	b.lay(root, node.Node{Level: 2, Kids: [8]int{kid, kid, 0, 0, kid, kid, kid, kid}}.Bytes())
	b.lay(kid, node.Node{Level: 1, Kids: [8]int{low, 0, low, 0, low, 0, 0, 0}}.Bytes())
	b.lay(low, node.Node{Level: 0, Kids: [8]int{heads[1], heads[0], heads[1], heads[1], 0, heads[3], 0, heads[3]}}.Bytes())
	m := over(t, b.d.Clone())
	m.is("a node below many", space.Usage{Heap: 300, Held: 1 + 3 + 3 + 12, Free: 281, Volumes: 1, Nodes: 3, Extents: 3, Parts: 12, Mapped: 6 * 3 * 6})
	m.settled("a node below many")
	b.lay(root, node.Node{Level: 2}.Bytes())
	over(t, b.d.Clone()).is("a root without kids", space.Usage{Heap: 300, Held: 2, Free: 298, Volumes: 1, Nodes: 1})
}
