package walk_test

import (
	"maps"
	"math"
	"slices"
	"strconv"
	"testing"

	"stereobate/api"
	"stereobate/disk"
	"stereobate/extent"
	"stereobate/heap"
	"stereobate/pack"
	"stereobate/radix"
	"stereobate/walk"
)

// box is maps, with what they lie in.
type box struct {
	t *testing.T
	d *disk.Disk
	h *heap.Heap
	x *extent.Store
	m *radix.Maps
}

func newBox(t *testing.T, n int) *box {
	d := disk.New(n)
	h := heap.New(d, 2)
	x := extent.New(h, 256)
	return &box{t, d, h, x, radix.New(h, x)}
}

// ends: a Try that ends with that error.
func (b *box) ends(want api.Errno, run func()) {
	b.t.Helper()
	if e := b.h.Try(run); e != want {
		b.t.Errorf("Try: %d, not %d", e, want)
	}
}

// works: a Try that doesn't fail.
func (b *box) works(run func()) {
	b.t.Helper()
	b.ends(api.OK, run)
}

// refs: of each sector that is held by how many it is wanted.
func (b *box) refs() map[int]int {
	n := map[int]int{}
	for _, at := range b.h.All() {
		n[at] = b.h.Refs(at)
	}
	return n
}

// refused: a call that fails so, by itself and in a Guard of a Try that goes on, and changes nothing.
func (b *box) refused(want api.Errno, run func()) {
	b.t.Helper()
	was, free := b.refs(), b.h.Free()
	b.ends(want, run)
	b.works(func() {
		if e := pack.Guard(run); e != want {
			b.t.Errorf("a call: %d, not %d", e, want)
		}
		if !maps.Equal(b.refs(), was) {
			b.t.Errorf("within: %v are wanted, not %v", b.refs(), was)
		}
	})
	if !maps.Equal(b.refs(), was) || b.h.Free() != free || b.x.Count() == 0 && len(was) > 0 {
		b.t.Errorf("behind it: %v are wanted, not %v", b.refs(), was)
	}
}

// set: a map in place of one that is let go, with an extent of that name at some places.
func (b *box) set(root int, name string, ats ...int) int {
	b.t.Helper()
	for _, at := range ats {
		b.works(func() { root = b.m.Set(root, at, b.x.Put(data(name))) })
	}
	return root
}

// share: a map that one more wants.
func (b *box) share(root int) int {
	b.t.Helper()
	b.works(func() { b.m.Share(root) })
	return root
}

func (b *box) drop(root int) {
	b.t.Helper()
	b.works(func() { b.m.Drop(root) })
}

// kid: where a kid of a node lies.
func (b *box) kid(at, level, slot int) int {
	b.t.Helper()
	b.works(func() { at = b.m.Load(at, level).Kids[slot] })
	return at
}

// all: the leaves of a map, by a loop over All.
func (b *box) all(root int) []walk.Leaf {
	b.t.Helper()
	var l []walk.Leaf
	b.works(func() {
		for x := range walk.All(b.m, root) {
			l = append(l, x)
		}
	})
	return l
}

// ats: which extents of a map aren't all bytes 0; each must lie where the map says.
func (b *box) ats(root int) []int {
	b.t.Helper()
	var l []int
	for _, x := range b.all(root) {
		l = append(l, x.At)
		b.works(func() {
			if at := b.m.Get(root, x.At); at != x.Extent || at == 0 {
				b.t.Errorf("the leaf %+v lies in %d", x, at)
			}
		})
	}
	return l
}

func (b *box) differ(x, y int) []int {
	b.t.Helper()
	var l []int
	b.works(func() { l = walk.Differ(b.m, x, y) })
	return l
}

func (b *box) reach(roots ...int) []int {
	b.t.Helper()
	var l []int
	b.works(func() { l = walk.Reach(b.m, roots...) })
	return l
}

func (b *box) clear(root, from, to int) int {
	b.t.Helper()
	b.works(func() { root = walk.Clear(b.m, root, from, to) })
	return root
}

// spoil: a byte of a sector, and, asked again, it is whole again.
func (b *box) spoil(at int) {
	pack.Guard(func() { b.d.Spoil(at, 40, 0x10) })
}

// cut: the power is cut.
func (b *box) cut() {
	b.d.Arm(0)
	pack.Guard(b.d.Sync)
}

// data: an extent whose first sector begins with a name.
func data(name string) string {
	return name + string(make([]byte, 256-len(name)))
}

// is: two lists of numbers are the same.
func is(t *testing.T, what string, l, want []int) {
	t.Helper()
	if !slices.Equal(l, want) {
		t.Errorf("%s: %v, not %v", what, l, want)
	}
}

// places: at each edge of a node of each level.
var places = []int{0, 1, 7, 8, 9, 15, 16, 63, 64, 127, 128, 300, 447, 448, 504, 510, 511}

// P14.1: the document's example.
func TestExample(t *testing.T) {
	b := newBox(t, 60)
	one := b.set(0, "one", 6, 7, 8)
	two := b.set(b.share(one), "another", 7)
	is(t, "Differ", b.differ(one, two), []int{7})
	is(t, "Differ", b.differ(two, one), []int{7})
}

// P14.1: the map 0 has nothing, with power or without, and the same map is no other one.
func TestNought(t *testing.T) {
	b := newBox(t, 40)
	root := b.set(0, "one", 9)
	for range 2 {
		is(t, "All", b.ats(0), nil)
		is(t, "Differ", b.differ(0, 0), nil)
		is(t, "Differ", b.differ(root, root), nil)
		is(t, "Reach", b.reach(), nil)
		is(t, "Reach", b.reach(0, 0, 0), nil)
		b.works(func() {
			if l := walk.Leaves(b.m, 0, 0, 512); len(l) > 0 {
				t.Errorf("Leaves: %v", l)
			}
		})
		if b.clear(0, 0, 512) != 0 {
			t.Error("Clear")
		}
		b.cut()
	}
}

// P14.1: the leaves rise, whichever was set first.
func TestAll(t *testing.T) {
	b := newBox(t, 200)
	root := 0
	for _, at := range slices.Backward(places) {
		root = b.set(root, strconv.Itoa(at), at)
	}
	is(t, "All", b.ats(root), places)
	b.works(func() {
		all := walk.All(b.m, root)
		for range 2 { // asked again it begins again
			i := 0
			for x := range all {
				if s := b.x.Get(x.Extent); x.At != places[i] || s != data(strconv.Itoa(x.At)) {
					t.Errorf("the leaf %+v has %q", x, s)
				}
				i++
			}
		}
	})
	full := 0
	b = newBox(t, 600)
	var every []int
	for at := range 512 {
		full = b.set(full, "all the same", at)
		every = append(every, at)
	}
	is(t, "All", b.ats(full), every)
}

// P14.1: who has enough gets no more, and what lies behind isn't read.
func TestAllEnough(t *testing.T) {
	b := newBox(t, 200)
	root := b.set(0, "x", places...)
	for n := 1; n <= len(places); n++ {
		var l []int
		b.works(func() {
			walk.All(b.m, root)(func(x walk.Leaf) bool {
				l = append(l, x.At)
				return len(l) < n
			})
		})
		is(t, "All", l, places[:n])
	}
	low, middle := b.kid(b.kid(root, 2, 0), 1, 1), b.kid(root, 2, 1)
	b.spoil(low)
	b.spoil(middle)
	var l []int
	b.works(func() {
		for x := range walk.All(b.m, root) {
			l = append(l, x.At)
			if x.At == 7 {
				break
			}
		}
	})
	is(t, "All", l, []int{0, 1, 7})
	l = nil
	b.ends(api.ErrSum, func() {
		for x := range walk.All(b.m, root) {
			l = append(l, x.At)
		}
	})
	is(t, "All, up to what can't be read", l, []int{0, 1, 7})
	b.works(func() { walk.All(b.m, root) }) // nothing is read till it is gone through
	b.spoil(low)
	b.ends(api.ErrSum, func() {
		for x := range walk.All(b.m, root) {
			if x.At > 63 {
				t.Errorf("a leaf behind what can't be read: %d", x.At)
			}
		}
	})
	b.spoil(middle)
	b.ends(api.ErrKind, func() {
		for x := range walk.All(b.m, root) {
			if x.At == 16 {
				pack.Fail(api.ErrKind)
			} else if x.At > 16 {
				t.Errorf("a leaf for who has failed: %d", x.At)
			}
		}
	})
}

// P14.1: all fail where Load does: the root, and nodes of each level.
func TestFails(t *testing.T) {
	b := newBox(t, 200)
	root := b.set(0, "x", places...)
	calls := map[string]func(){
		"All": func() {
			for range walk.All(b.m, root) {
			}
		},
		"Leaves": func() { walk.Leaves(b.m, root, 0, 512) },
		"Differ": func() { walk.Differ(b.m, root, 0) },
		"differ": func() { walk.Differ(b.m, 0, root) },
		"Reach":  func() { walk.Reach(b.m, 0, root) },
		"Clear":  func() { walk.Clear(b.m, root, 0, 512) },
	}
	for _, at := range []int{root, b.kid(root, 2, 7), b.kid(b.kid(root, 2, 7), 1, 7)} {
		b.spoil(at)
		for _, run := range calls {
			b.refused(api.ErrSum, run)
		}
		b.spoil(at)
	}
	b.cut()
	for _, run := range calls {
		b.refused(api.ErrCut, run)
	}
}

// P14.1: an extent's head is read by those alone that ask for its sectors, or let it go; its sectors by none.
func TestHeadSpoilt(t *testing.T) {
	b := newBox(t, 200)
	root := b.set(0, "x", places...)
	head := b.kid(b.kid(b.kid(root, 2, 0), 1, 0), 0, 0)
	b.spoil(head)
	is(t, "All", b.ats(root), places)
	is(t, "Differ", b.differ(root, 0), places)
	b.refused(api.ErrSum, func() { walk.Reach(b.m, root) })
	b.refused(api.ErrSum, func() { walk.Clear(b.m, root, 0, 512) })
	b.spoil(head)
	b.spoil(2) // the extent's sector
	is(t, "Reach", b.reach(root), b.h.All())
	if b.clear(root, 0, 512) != 0 || b.h.Held() != 0 {
		t.Errorf("Clear: %v are held", b.h.All())
	}
}

// bounds: those that ranges are made of.
func bounds() []int {
	l := []int{math.MinInt, -512, -1, 512, 513, math.MaxInt}
	for _, at := range places {
		l = append(l, at, at+1)
	}
	slices.Sort(l)
	return slices.Compact(l)
}

// between: those of places from from on, below to.
func between(l []int, from, to int) (in, out []int) {
	for _, at := range l {
		if from <= at && at < to {
			in = append(in, at)
		} else {
			out = append(out, at)
		}
	}
	return in, out
}

// P14.1: Leaves and Clear of each range, such that begin below the map, or end behind it, or ahead of their begin.
func TestRanges(t *testing.T) {
	b := newBox(t, 400)
	root := b.set(0, "x", places...)
	held := b.h.Held()
	for _, from := range bounds() {
		for _, to := range bounds() {
			in, out := between(places, from, to)
			var l []int
			b.works(func() {
				for _, x := range walk.Leaves(b.m, root, from, to) {
					l = append(l, x.At)
				}
			})
			is(t, "Leaves", l, in)
			other := b.clear(b.share(root), from, to)
			is(t, "Clear", b.ats(other), out)
			if (other == root) != (len(in) == 0) || (other == 0) != (len(out) == 0) {
				t.Errorf("Clear(%d, %d): %d of %d", from, to, other, root)
			}
			if b.h.Refs(root) != 1 && other != root {
				t.Errorf("Clear: %d want the map ahead", b.h.Refs(root))
			}
			is(t, "Differ", b.differ(root, other), in)
			b.drop(other)
			if b.h.Held() != held || b.h.Refs(root) != 1 {
				t.Fatalf("Clear(%d, %d): %d are held, not %d", from, to, b.h.Held(), held)
			}
		}
	}
}

// P14.1: what lies ahead of a range, or behind it, isn't read.
func TestLeavesSpoilt(t *testing.T) {
	b := newBox(t, 200)
	root := b.set(0, "x", places...)
	ahead, behind := b.kid(root, 2, 0), b.kid(root, 2, 7)
	b.spoil(ahead)
	b.spoil(behind)
	leaves := func(from, to int) []int {
		var l []int
		for _, x := range walk.Leaves(b.m, root, from, to) {
			l = append(l, x.At)
		}
		return l
	}
	b.works(func() { is(t, "Leaves", leaves(64, 448), []int{64, 127, 128, 300, 447}) })
	b.refused(api.ErrSum, func() { leaves(63, 448) })
	b.refused(api.ErrSum, func() { leaves(64, 449) })
}

// P14.1, P14.2: nodes that both have aren't looked at.
func TestDifferShared(t *testing.T) {
	b := newBox(t, 300)
	one := b.set(0, "x", places...)
	two := b.set(b.share(one), "y", 8, 10, 448)
	spoilt := []int{b.kid(one, 2, 1), b.kid(one, 2, 2), b.kid(one, 2, 4), b.kid(one, 2, 6), b.kid(b.kid(one, 2, 0), 1, 0), b.kid(b.kid(one, 2, 0), 1, 2), b.kid(b.kid(one, 2, 7), 1, 7), b.kid(b.kid(b.kid(one, 2, 0), 1, 1), 0, 0)}
	for _, at := range spoilt {
		b.spoil(at)
	}
	is(t, "Differ", b.differ(one, two), []int{8, 10, 448})
	is(t, "Differ", b.differ(two, one), []int{8, 10, 448})
	for _, at := range spoilt {
		b.spoil(at)
	}
	for _, root := range []int{one, two} {
		at := b.kid(b.kid(root, 2, 0), 1, 1)
		b.spoil(at)
		b.refused(api.ErrSum, func() { walk.Differ(b.m, one, two) })
		b.spoil(at)
	}
}

// P14.2: two nodes with the same below them don't differ; what one map has and the other one hasn't, does.
func TestDifferApart(t *testing.T) {
	b := newBox(t, 600)
	one, two := b.set(0, "x", places...), 0
	for _, at := range slices.Backward(places) {
		two = b.set(two, "x", at)
	}
	is(t, "Differ", b.differ(one, two), nil)
	is(t, "Differ", b.differ(one, 0), places)
	is(t, "Differ", b.differ(0, two), places)
	two = b.set(two, "y", 1, 2, 511)
	two = b.clear(two, 63, 65)
	is(t, "Differ", b.differ(one, two), []int{1, 2, 63, 64, 511})
	two = b.set(two, "x", 1, 63, 64, 511)
	is(t, "Differ", b.differ(two, one), []int{2})
}

// P14.1, P14.3: each sector once, rising, of whichever roots, each as often as it is asked.
func TestReach(t *testing.T) {
	b := newBox(t, 300)
	var one int
	b.works(func() { one = b.m.Set(0, 500, b.x.Put(data("")[:64]+data("x")[:128]+data("y")[:64])) })
	// the extent's sectors 2 and 3, its head 4, three nodes
	is(t, "Reach", b.reach(one), []int{2, 3, 4, 5, 6, 7})
	is(t, "Reach", b.reach(one, 0, one, one), []int{2, 3, 4, 5, 6, 7})
	two := b.set(b.share(one), "z", 501)
	is(t, "Reach", b.reach(two, one), b.h.All())
	is(t, "Reach", b.reach(one, two), b.h.All())
	is(t, "Reach", b.reach(one), []int{2, 3, 4, 5, 6, 7})
	is(t, "Reach", b.reach(two), append([]int{2, 3, 4}, b.h.All()[6:]...))
	b.drop(one)
	is(t, "Reach", b.reach(two), b.h.All())
}

// P14.1: with less room than it takes, at any of the Sets, or with the power cut in any, a Clear has changed nothing.
func TestClearFails(t *testing.T) {
	const takes = 3 + 2 + 1 + 2 // nodes that are left on the way to 0, 1, 9 and 64, one behind the other
	for room := range takes + 2 {
		for _, power := range []bool{false, true} {
			b := newBox(t, 200)
			root := b.set(0, "x", 0, 1, 9, 64, 100, 300)
			want := api.ErrSpace
			if power {
				want = api.ErrCut
				b.d.Arm(room)
			} else {
				b.works(func() { b.h.Keep(b.h.Free() - room) })
			}
			if room >= takes {
				is(t, "Clear", b.ats(b.clear(root, 0, 65)), []int{100, 300})
				continue
			}
			b.refused(want, func() { walk.Clear(b.m, root, 0, 65) })
			if power {
				b.d.Crash(slices.Repeat([]int{64}, b.d.Len())...)
			}
			is(t, "All", b.ats(root), []int{0, 1, 9, 64, 100, 300})
			is(t, "Reach", b.reach(root), b.h.All())
		}
	}
}

// P14.1: a Clear within a Try that fails is as if it had never been.
func TestClearUndone(t *testing.T) {
	b := newBox(t, 300)
	root := b.set(0, "x", places...)
	was := b.refs()
	b.works(func() {
		other := b.m.Set(root, 20, b.x.Put(data("y")))
		b.ends(api.ErrNone, func() {
			b.m.Drop(walk.Clear(b.m, other, 5, 400))
			pack.Fail(api.ErrNone)
		})
		root = b.m.Set(other, 20, 0)
	})
	is(t, "All", b.ats(root), places)
	if len(b.refs()) != len(was) {
		t.Errorf("%v are held, not %v", b.refs(), was)
	}
}

// P14.1: an answer is a list of its own.
func TestOwn(t *testing.T) {
	b := newBox(t, 200)
	root := b.set(0, "x", places...)
	b.works(func() {
		leaves, differ, reach := walk.Leaves(b.m, root, 0, 512), walk.Differ(b.m, root, 0), walk.Reach(b.m, root)
		clear(leaves)
		clear(differ)
		clear(reach)
	})
	is(t, "All", b.ats(root), places)
	is(t, "Differ", b.differ(root, 0), places)
	is(t, "Reach", b.reach(root), b.h.All())
	roots := []int{root, 0, root}
	b.reach(roots...)
	is(t, "what was handed in", roots, []int{root, 0, root})
}
