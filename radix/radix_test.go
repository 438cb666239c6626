package radix_test

import (
	"math"
	"slices"
	"testing"

	"stereobate/api"
	"stereobate/disk"
	"stereobate/extent"
	"stereobate/heap"
	"stereobate/node"
	"stereobate/pack"
	"stereobate/radix"
	"stereobate/sha"
)

// box is maps, with what they lie in.
type box struct {
	t *testing.T
	d *disk.Disk
	h *heap.Heap
	x *extent.Store
	m *radix.Maps

	all int // how many sectors the heap has
}

func newBox(t *testing.T, n, from int) *box {
	return over(t, disk.New(n), from, 256)
}

// over: maps of a heap and a store in which nothing is yet, on that disk.
func over(t *testing.T, d *disk.Disk, from, bits int) *box {
	h := heap.New(d, from)
	x := extent.New(h, bits)
	return &box{t, d, h, x, radix.New(h, x), d.Len() - from}
}

// fails: a Try that ends with that error, behind which all must be as it was.
func (b *box) fails(want api.Errno, run func()) {
	b.t.Helper()
	was := b.state()
	if e := b.h.Try(run); e != want {
		b.t.Errorf("Try: %d, not %d", e, want)
	}
	if want != api.OK {
		b.is("behind a Try that failed", was)
	}
}

// caught: a call that fails so in a Guard of a Try that goes on; nothing has changed, within and behind it.
func (b *box) caught(want api.Errno, run func()) {
	b.t.Helper()
	was := b.state()
	b.h.Try(func() {
		if e := pack.Guard(run); e != want {
			b.t.Errorf("a call: %d, not %d", e, want)
		}
		b.is("within a Try that goes on", was)
	})
	b.is("behind a Try that went on", was)
}

// works: a Try that doesn't fail.
func (b *box) works(run func()) {
	b.t.Helper()
	b.fails(api.OK, run)
}

// refused: a call that fails so, by itself or in a Guard.
func (b *box) refused(want api.Errno, run func()) {
	b.t.Helper()
	b.fails(want, run)
	b.caught(want, run)
}

// state is all that can be seen of a heap and a store, but for the power.
type state struct {
	count, free, late int
	held, refs        []int
}

func (b *box) state() state {
	s := state{count: b.x.Count(), free: b.h.Free(), late: b.h.Late(), held: b.h.All()}
	for _, at := range s.held {
		s.refs = append(s.refs, b.h.Refs(at))
	}
	return s
}

func (b *box) is(what string, want state) {
	b.t.Helper()
	s := b.state()
	if s.count != want.count || s.free != want.free || s.late != want.late || !slices.Equal(s.held, want.held) || !slices.Equal(s.refs, want.refs) {
		b.t.Errorf("%s: %+v, not %+v", what, s, want)
	}
}

// refs: by how many each of these is wanted.
func (b *box) refs(what string, want map[int]int) {
	b.t.Helper()
	for at, n := range want {
		if b.h.Refs(at) != n {
			b.t.Errorf("%s: sector %d is wanted by %d, not %d", what, at, b.h.Refs(at), n)
		}
	}
}

// put: an extent that whoever calls wants.
func (b *box) put(s string) int {
	b.t.Helper()
	at := 0
	b.works(func() { at = b.x.Put(s) })
	return at
}

// set: a map with these bytes at some place, in a Try of its own that works.
func (b *box) set(root, at int, s string) int {
	b.t.Helper()
	b.works(func() { root = b.m.Set(root, at, b.x.Put(s)) })
	return root
}

// get: the bytes that a map has there.
func (b *box) get(root, at int) string {
	b.t.Helper()
	s := ""
	b.works(func() { s = b.x.Get(b.m.Get(root, at)) })
	return s
}

// has: what a map has at each place; its digest.
func (b *box) has(root int, want map[int]string) {
	b.t.Helper()
	for at := range 512 {
		s, ok := want[at]
		if !ok {
			s = noughts(256)
		}
		if got := b.get(root, at); got != s {
			b.t.Fatalf("the map %d has %q at %d, not %q", root, got, at, s)
		}
	}
	if s, want := b.sum(root), digest(want, radix.Top, 0); s != want {
		b.t.Errorf("Sum(%d): %s, not %s", root, s.Hex(), want.Hex())
	}
}

func (b *box) sum(root int) sha.Sum {
	b.t.Helper()
	var s sha.Sum
	b.works(func() { s = b.m.Sum(root) })
	return s
}

// load: a node that is there.
func (b *box) load(at, level int) node.Node {
	b.t.Helper()
	var n node.Node
	b.works(func() { n = b.m.Load(at, level) })
	return n
}

// share, drop: in a Try of its own that works.
func (b *box) share(root int) {
	b.t.Helper()
	b.works(func() { b.m.Share(root) })
}

func (b *box) drop(root int) {
	b.t.Helper()
	b.works(func() { b.m.Drop(root) })
}

// empty: nothing is held, nothing kept.
func (b *box) empty(what string) {
	b.t.Helper()
	if b.h.Held() != 0 || b.x.Count() != 0 || b.h.Free()+b.h.Late() != b.all {
		b.t.Errorf("%s: %v are held, %d are kept", what, b.h.All(), b.x.Count())
	}
}

// spoil: a byte of a sector, and, asked again, it is whole again.
func (b *box) spoil(at, by int) {
	pack.Guard(func() { b.d.Spoil(at, by, 0x10) })
}

// on: what lies in a sector of the disk.
func (b *box) on(at int) string {
	s := ""
	pack.Guard(func() { s = b.d.Read(at) })
	return s
}

// write: bytes on the disk, whatever the heap has there.
func (b *box) write(at int, s string) {
	b.t.Helper()
	if e := pack.Guard(func() { b.d.Write(at, s) }); e != api.OK {
		b.t.Fatalf("Write(%d): %d", at, e)
	}
}

// cut: the power is cut.
func (b *box) cut() {
	b.d.Arm(0)
	pack.Guard(b.d.Sync)
}

// whole: there is power again, and all that was written.
func (b *box) whole() {
	b.d.Crash(slices.Repeat([]int{64}, b.d.Len())...)
}

// path: the nodes of a map from the root to an extent, and that.
func (b *box) path(root, at int) [4]int {
	b.t.Helper()
	l := [4]int{root}
	for i, n := range []int{64, 8, 1} {
		l[i+1] = b.load(l[i], 2-i).Kids[at/n%8]
	}
	return l
}

// P13.1: the document's example.
func TestExample(t *testing.T) {
	b := newBox(t, 20, 2)
	root := b.set(0, 5, data("five"))
	if root == 0 || b.set(root, 5, noughts(256)) != 0 {
		t.Error("Set of bytes 0 where all others are")
	}
	b.empty("the example")
}

// P13.1: a map of one extent, at each place: three nodes, from below, as they lie on the disk.
func TestLaid(t *testing.T) {
	for at := range 512 {
		b := newBox(t, 20, 3)
		x := b.put(data("one")) // its sector, and its head, in 4
		root := 0
		b.works(func() { root = b.m.Set(0, at, x) })
		sum, kid, want := sha.Of(data("one")), x, 0
		for i, n := range []int{1, 8, 64} {
			var sums [8]sha.Sum
			sums[at/n%8] = sum
			sum = node.Digest(i, sums)
			laid := node.Node{Level: i, Sum: sum}
			laid.Kids[at/n%8] = kid
			kid, want = 5+i, 5+i
			if b.on(want) != laid.Bytes() || b.load(want, i) != laid || b.h.Refs(want) != 1 {
				t.Fatalf("Set(0, %d): the node of level %d: % x", at, i, b.on(want))
			}
		}
		if root != want || b.h.Held() != 5 || b.h.Refs(x) != 1 {
			t.Fatalf("Set(0, %d): %d, of %v", at, root, b.h.All())
		}
		if b.sum(root) != sum {
			t.Errorf("Sum: %s", b.sum(root).Hex())
		}
		for other := range 512 {
			want := 0
			if other == at {
				want = x
			}
			got := 0
			b.works(func() { got = b.m.Get(root, other) })
			if got != want {
				t.Fatalf("Get(%d, %d): %d, not %d", root, other, got, want)
			}
		}
	}
}

// P13.1: the map 0 has no extents, and none of its calls does anything, with power or without.
func TestNought(t *testing.T) {
	b := newBox(t, 10, 2)
	was := b.state()
	for range 2 {
		for _, level := range []int{0, 1, 2, 3, -1, math.MaxInt, math.MinInt} {
			if n := b.load(0, level); n != (node.Node{Level: level}) {
				t.Errorf("Load(0, %d): %+v", level, n)
			}
		}
		b.has(0, nil)
		b.share(0)
		b.drop(0)
		b.works(func() {
			for at := range 512 {
				if root := b.m.Set(0, at, 0); root != 0 {
					t.Fatalf("Set(0, %d, 0): %d", at, root)
				}
			}
		})
		if e := pack.Guard(func() { b.m.Adopt(0) }); e != api.OK {
			t.Errorf("Adopt(0): %d", e)
		}
		b.is("calls of 0", was)
		b.cut()
	}
}

// P13.1: what lies there must be held, whole, a node, of that level.
func TestLoad(t *testing.T) {
	b := newBox(t, 20, 2)
	root := b.set(0, 77, data("one"))
	path := b.path(root, 77)
	for i, at := range path[:3] {
		for level := -3; level < 6; level++ {
			if level == 2-i {
				continue
			}
			b.refused(api.ErrForm, func() { b.m.Load(at, level) })
		}
		for by := range 64 {
			b.spoil(at, by)
			b.refused(api.ErrSum, func() { b.m.Load(at, 2-i) })
			b.spoil(at, by)
		}
	}
	b.refused(api.ErrForm, func() { b.m.Load(path[3], 0) }) // a head
	b.refused(api.ErrSum, func() { b.m.Load(2, 0) })        // an extent's sector
	b.works(func() { b.m.Heap.Put("late") })
	b.h.Settle()
	b.works(func() { b.m.Heap.Less(7) })
	for _, at := range []int{1, 7, 8, 19, 20, -1, math.MaxInt, math.MinInt} {
		b.refused(api.ErrRange, func() { b.m.Load(at, 2) })
	}
	b.cut()
	b.refused(api.ErrCut, func() { b.m.Load(root, 2) })
	b.refused(api.ErrRange, func() { b.m.Load(1, 2) })
}

// P13.1: with the extent that is there already it is the same map, and whoever calls wants that extent less.
func TestSetSame(t *testing.T) {
	b := newBox(t, 40, 2)
	root := b.set(b.set(0, 100, data("one")), 300, data("two"))
	b.share(root)
	x := b.path(root, 100)[3]
	was := b.state()
	b.d.Arm(0)
	for range 3 {
		if b.set(root, 100, data("one")) != root {
			t.Error("Set of the same")
		}
		for _, at := range []int{99, 101, 0, 511, 299, 447} {
			if b.set(root, at, noughts(256)) != root {
				t.Errorf("Set of bytes 0 at %d", at)
			}
		}
	}
	b.is("Set of the same", was)
	b.works(func() { b.m.Set(root, 100, b.x.Put(data("one"))); b.refs("within", map[int]int{x: 1, root: 2}) })
	b.has(root, map[int]string{100: data("one"), 300: data("two")})
}

// P13.1: whose it is to be is wanted by whoever calls: one for the new node, none left over.
func TestSetWants(t *testing.T) {
	b := newBox(t, 60, 2)
	x := b.put(data("one"))
	for range 4 {
		b.works(func() { b.x.More(x) })
	}
	root := 0
	for i, at := range []int{5, 6, 300, 511} {
		b.works(func() { root = b.m.Set(root, at, x) })
		b.refs("Set", map[int]int{x: 5, root: 1})
		if n := i + 1; b.path(root, at)[3] != x {
			t.Errorf("Set %d: another extent", n)
		}
	}
	b.drop(root)
	b.refs("Drop", map[int]int{x: 1})
	b.works(func() { b.x.Less(x) })
	b.empty("let go")
}

// P13.1, P13.2: of a map that somebody else wants another one has other nodes from the root on, and all other
// kids are the same; of the one ahead nothing has changed.
func TestSetShared(t *testing.T) {
	b := newBox(t, 200, 2)
	want := map[int]string{}
	root := 0
	for _, at := range []int{64, 65, 71, 72, 80, 127, 0, 130, 511} {
		want[at] = data(string([]byte{byte(at + 1)}))
		root = b.set(root, at, want[at])
	}
	bytes := map[int]string{}
	for _, at := range b.h.All() {
		bytes[at] = b.on(at)
	}
	b.share(root)
	held := b.h.Held()
	other := b.set(root, 65, data("other"))
	if b.h.Held() != held+3+2 {
		t.Errorf("%d more are held", b.h.Held()-held)
	}
	old, now := b.path(root, 65), b.path(other, 65)
	for i := range 3 {
		was, is := b.load(old[i], 2-i), b.load(now[i], 2-i)
		if old[i] == now[i] {
			t.Errorf("level %d: the same node", 2-i)
		}
		b.refs("a path's nodes", map[int]int{old[i]: 1, now[i]: 1})
		for slot, kid := range was.Kids {
			if kid != old[i+1] && kid != is.Kids[slot] {
				t.Errorf("level %d: kid %d is %d, not %d", 2-i, slot, is.Kids[slot], kid)
			}
			if kid != 0 && kid != old[i+1] {
				b.refs("kids that both have", map[int]int{kid: 2})
			}
		}
	}
	for at, s := range bytes {
		if b.on(at) != s {
			t.Errorf("sector %d was changed", at)
		}
	}
	b.has(root, want)
	b.drop(root)
	want[65] = data("other")
	b.has(other, want)
	if b.h.Held() != held {
		t.Errorf("%d held, not %d", b.h.Held(), held)
	}
	b.drop(other)
	b.empty("let go")
}

// P13.1: of a map that nobody else wants the nodes on the way, and the extent, are let go: late, if they were
// there at the last Settle, else free behind the Try.
func TestSetAlone(t *testing.T) {
	for _, settled := range []bool{false, true} {
		b := newBox(t, 40, 2)
		root := b.set(0, 9, data("one")) // 2 to 6
		if settled {
			b.h.Settle()
		}
		root = b.set(root, 9, data("two"))
		want := state{count: 1, free: 33, held: []int{7, 8, 9, 10, 11}, refs: []int{1, 1, 1, 1, 1}}
		if settled {
			want.free, want.late = 28, 5
		}
		b.is("Set", want)
		b.has(root, map[int]string{9: data("two")})
		b.drop(root)
		b.empty("let go")
	}
}

// P13.1: an extent that is none any more, at each level at which it is the last one: the node isn't there any more.
func TestSetNought(t *testing.T) {
	b := newBox(t, 60, 2)
	root := 0
	for _, at := range []int{0, 1, 8, 64} {
		root = b.set(root, at, data(string([]byte{byte(at + 1)})))
	}
	want := map[int]string{0: data("\x01"), 1: data("\x02"), 8: data("\x09"), 64: data("\x41")}
	nodes := 6
	for i, at := range []int{1, 0, 64, 8} {
		if b.h.Held() != nodes+2*(4-i) {
			t.Errorf("%d held", b.h.Held())
		}
		root = b.set(root, at, noughts(256))
		delete(want, at)
		b.has(root, want)
		nodes -= []int{0, 1, 2, 3}[i]
	}
	if root != 0 {
		t.Errorf("a map without extents: %d", root)
	}
	b.empty("without extents")
}

// P13.1: nodes with the same bytes are two.
func TestSetTwice(t *testing.T) {
	b := newBox(t, 40, 2)
	one, two := b.set(0, 40, data("one")), b.set(0, 40, data("one"))
	pathOne, pathTwo := b.path(one, 40), b.path(two, 40)
	for i := range 3 {
		if pathOne[i] == pathTwo[i] {
			t.Errorf("level %d: the same node", 2-i)
		}
		b.refs("two nodes", map[int]int{pathOne[i]: 1, pathTwo[i]: 1})
	}
	if pathOne[3] != pathTwo[3] || b.on(pathOne[2]) != b.on(pathTwo[2]) {
		t.Error("two extents, or nodes with other bytes")
	}
	b.refs("one extent", map[int]int{pathOne[3]: 2})
	b.drop(one)
	b.has(two, map[int]string{40: data("one")})
	// and within one map: two nodes below each other's level, two beside each other
	b.drop(b.set(b.set(two, 48, data("one")), 104, data("one")))
	b.empty("let go")
}

// P13.1: with less room than it takes nothing has changed; with just that it works.
func TestSetSpace(t *testing.T) {
	for _, c := range []struct{ at, takes int }{{1, 3}, {9, 3}, {400, 3}, {0, 3}} {
		for room := range 5 {
			for keep := range 3 {
				b := newBox(t, 2+9+room+keep, 2)
				root := b.set(0, 0, data("one")) // a sector and a head, then three nodes: 2 to 6
				x := b.put(some(noise(1), 192))  // four, so that there are 9 in all
				b.works(func() { b.h.Keep(keep) })
				if room < c.takes {
					b.refused(api.ErrSpace, func() { b.m.Set(root, c.at, x) })
					b.has(root, map[int]string{0: data("one")})
					continue
				}
				b.works(func() { root = b.m.Set(root, c.at, x) })
				b.refs("Set", map[int]int{x: 1, root: 1})
			}
		}
	}
}

// P13.1: to take an extent out takes nodes, too, but those that aren't there behind it.
func TestSetNoughtSpace(t *testing.T) {
	for _, c := range []struct{ other, takes int }{{-1, 0}, {100, 1}, {9, 2}, {1, 3}} {
		for room := range 5 {
			b := newBox(t, 60, 2)
			root := b.set(0, 0, data("one"))
			if c.other > 0 {
				root = b.set(root, c.other, data("two"))
			}
			b.works(func() { b.h.Keep(b.h.Free() - room) })
			if room < c.takes {
				b.refused(api.ErrSpace, func() { b.m.Set(root, 0, 0) })
				continue
			}
			root = b.set(root, 0, noughts(256))
			if c.other < 0 {
				b.empty("without extents")
				continue
			}
			b.has(root, map[int]string{c.other: data("two")})
		}
	}
}

// P13.1: within a Try that goes on behind a Set that failed all is as it was, and the extent can be set elsewhere.
func TestSetGoesOn(t *testing.T) {
	b := newBox(t, 40, 2)
	root := b.set(0, 8, data("one"))
	b.works(func() {
		x := b.x.Put(data("two"))
		b.h.Keep(b.h.Free() - 2)
		if e := pack.Guard(func() { b.m.Set(root, 9, x) }); e != api.ErrSpace {
			t.Errorf("Set: %d", e)
		}
		b.refs("within", map[int]int{x: 1, root: 1})
		b.h.Keep(0)
		root = b.m.Set(root, 10, x)
	})
	b.has(root, map[int]string{8: data("one"), 10: data("two")})
	b.drop(root)
	b.empty("let go")
}

// P13.1: the power is cut in a Set, at each of its writes: nothing has changed but that.
func TestSetCut(t *testing.T) {
	for n := range 3 {
		for _, guard := range []bool{false, true} {
			b := newBox(t, 40, 2)
			root, x := b.set(0, 8, data("one")), b.put(data("two"))
			b.d.Arm(n)
			run := func() { b.m.Set(root, 9, x) }
			if guard {
				b.caught(api.ErrCut, run)
			} else {
				b.fails(api.ErrCut, run)
			}
			if !b.d.Dead() {
				t.Errorf("%d writes: there is power", n)
			}
			b.refused(api.ErrCut, run)
			b.whole()
			b.has(root, map[int]string{8: data("one")})
			b.works(func() { root = b.m.Set(root, 9, x) })
			b.has(root, map[int]string{8: data("one"), 9: data("two")})
		}
	}
	b := newBox(t, 40, 2)
	x := b.put(data("one"))
	b.d.Arm(3)
	b.works(func() { b.m.Set(0, 9, x) })
}

// P13.1: without power Share works, and Drop of what somebody else wants; all others don't, and change nothing.
func TestCut(t *testing.T) {
	b := newBox(t, 40, 2)
	root, x := b.set(0, 8, data("one")), b.put(data("two"))
	b.cut()
	for _, run := range []func(){
		func() { b.m.Load(root, 2) },
		func() { b.m.Get(root, 8) },
		func() { b.m.Get(root, 500) },
		func() { b.m.Set(root, 8, x) },
		func() { b.m.Set(root, 300, 0) },
		func() { b.m.Set(0, 300, x) },
		func() { b.m.Sum(root) },
		func() { b.m.Drop(root) },
	} {
		b.refused(api.ErrCut, run)
	}
	b.share(root)
	b.refs("Share", map[int]int{root: 2})
	b.drop(root)
	b.refs("Drop", map[int]int{root: 1})
	b.refused(api.ErrCut, func() { b.m.Drop(root) })
	b.whole()
	b.drop(root)
	b.works(func() { b.x.Less(x) })
	b.empty("let go")
}

// tall: a map with three kids at each level of the way to 0, and where its nodes and extents lie.
func tall(t *testing.T) (*box, int) {
	b := newBox(t, 200, 2)
	root := 0
	for _, at := range []int{0, 1, 2, 8, 9, 16, 64, 65, 72, 128} {
		root = b.set(root, at, data(string([]byte{byte(at + 1)})))
	}
	return b, root
}

// P13.1: a byte that is spoilt in what is read: Set fails, and changes nothing; elsewhere it doesn't matter.
func TestSetSpoilt(t *testing.T) {
	b, root := tall(t)
	x := b.put(data("other"))
	spoilt := func(want api.Errno, ats ...int) {
		t.Helper()
		for _, at := range ats {
			b.spoil(at, 40)
			if want == api.OK {
				b.fails(api.ErrKind, func() { b.m.Set(root, 0, x); pack.Fail(api.ErrKind) })
			} else {
				b.refused(want, func() { b.m.Set(root, 0, x) })
			}
			b.spoil(at, 40)
		}
	}
	way := b.path(root, 0)
	spoilt(api.ErrSum, way[0], way[1], way[2])
	// the kids of those on the way, as their sums make the new ones'
	spoilt(api.ErrSum, b.path(root, 64)[1], b.path(root, 128)[1], b.path(root, 8)[2], b.path(root, 16)[2])
	spoilt(api.ErrSum, b.path(root, 1)[3], b.path(root, 2)[3], x)
	spoilt(api.ErrSum, way[3]) // it is let go
	// what lies below kids that aren't on the way
	spoilt(api.OK, b.path(root, 64)[2], b.path(root, 72)[2], b.path(root, 128)[2], b.path(root, 8)[3], b.path(root, 64)[3])
	b.share(root)
	spoilt(api.OK, way[3]) // another map has it
	spoilt(api.ErrSum, way[2], b.path(root, 1)[3])
	b.spoil(way[3], 40)
	b.works(func() { x = b.m.Set(root, 0, x) })
	b.spoil(way[3], 40)
	b.drop(root)
	b.drop(x)
	b.empty("let go")
}

// K2: what can't be loaded is named ahead of no room, on the way and beside it.
func TestSetOrder(t *testing.T) {
	b, root := tall(t)
	x := b.put(data("other"))
	b.works(func() { b.h.Keep(b.h.Free()) })
	b.refused(api.ErrSpace, func() { b.m.Set(root, 0, x) })
	for _, at := range []int{root, b.path(root, 0)[2], b.path(root, 64)[1], b.path(root, 16)[2]} {
		b.spoil(at, 1)
		b.refused(api.ErrSum, func() { b.m.Set(root, 0, x) })
		b.spoil(at, 1)
	}
	b.d.Arm(0)
	b.refused(api.ErrSpace, func() { b.m.Set(root, 0, x) })
	if b.d.Dead() {
		t.Error("a Set without room wrote")
	}
	b.works(func() { b.h.Keep(0) })
	b.spoil(b.path(root, 16)[2], 1)
	b.refused(api.ErrSum, func() { b.m.Set(root, 0, x) })
	if b.d.Dead() {
		t.Error("a Set wrote ahead of what can't be loaded")
	}
}

// P13.1: Get reads the nodes on the way alone, Sum the root.
func TestGetSpoilt(t *testing.T) {
	b, root := tall(t)
	way := b.path(root, 9)
	for i, at := range way {
		for by := range 64 {
			b.spoil(at, by)
			if i < 3 {
				b.refused(api.ErrSum, func() { b.m.Get(root, 9) })
			} else {
				b.works(func() { b.m.Get(root, 9) })
			}
			if i == 0 {
				b.refused(api.ErrSum, func() { b.m.Sum(root) })
			} else {
				b.works(func() { b.m.Sum(root); b.m.Get(root, 511); b.m.Get(root, 128) })
			}
			b.spoil(at, by)
		}
	}
	b.write(way[2], b.on(way[1]))
	b.refused(api.ErrForm, func() { b.m.Get(root, 9) })
}

// P13.1, P13.4: a map is there as long as one wants it; then nothing of it is held that no other one has.
func TestDrop(t *testing.T) {
	b, root := tall(t)
	was := b.state()
	for n := 2; n < 6; n++ {
		b.share(root)
		b.refs("Share", map[int]int{root: n})
	}
	b.refs("Share", map[int]int{b.path(root, 0)[1]: 1, b.path(root, 0)[3]: 1})
	for range 4 {
		b.drop(root)
	}
	b.is("shared and dropped", was)
	b.share(root)
	other := b.set(root, 130, data("other"))
	third := b.set(other, 130, noughts(256))
	b.drop(root)
	b.has(third, map[int]string{0: data("\x01"), 1: data("\x02"), 2: data("\x03"), 8: data("\x09"), 9: data("\x0a"), 16: data("\x11"), 64: data("\x41"), 65: data("\x42"), 72: data("\x49"), 128: data("\x81")})
	b.is("a copy of the same", state{was.count, b.h.Free(), 0, b.h.All(), was.refs})
	b.drop(third)
	b.empty("let go")
}

// P13.1: of a Drop that meets what can't be read nothing has changed; what it needn't read doesn't matter.
func TestDropSpoilt(t *testing.T) {
	b, root := tall(t)
	held := b.h.All()
	for _, at := range held {
		if b.on(at)[0] != 'N' && b.on(at)[0] != 'E' {
			continue // an extent's sector
		}
		b.spoil(at, 20)
		b.refused(api.ErrSum, func() { b.m.Drop(root) })
		b.works(func() { b.m.Share(root); b.m.Drop(root) })
		b.spoil(at, 20)
	}
	b.share(root)
	other := b.set(root, 0, noughts(256))
	both := b.path(root, 64)[1]
	b.spoil(both, 20)
	b.drop(other)
	b.spoil(both, 20)
	b.drop(root)
	b.empty("let go")
	// what lies there now is another level's
	b, root = tall(t)
	way := b.path(root, 64)
	b.write(way[2], b.on(way[1]))
	b.refused(api.ErrForm, func() { b.m.Drop(root) })
}

// P13.3: the digest hangs on the extents alone, not on the way to them.
func TestDigest(t *testing.T) {
	b := newBox(t, 400, 2)
	next := noise(7)
	at := []int{0, 7, 8, 63, 64, 100, 300, 447, 448, 511}
	want := map[int]string{}
	one, two := 0, 0
	for _, i := range at {
		want[i] = data(some(next, 60))
		one = b.set(one, i, want[i])
	}
	for _, i := range slices.Backward(at) {
		two = b.set(b.set(two, (i+5)%512, data("for a while")), i, want[i])
		two = b.set(two, (i+5)%512, noughts(256))
	}
	b.has(one, want)
	b.has(two, want)
	if one == two || b.sum(one) != b.sum(two) {
		t.Error("two digests of the same extents")
	}
	seen := map[sha.Sum]int{b.sum(one): -1, {}: -2}
	for i := range 512 {
		was, ok := want[i]
		if ok {
			delete(want, i)
		} else {
			want[i] = data("another")
		}
		b.share(one)
		other := b.set(one, i, want[i]+noughts(256-len(want[i])))
		sum := b.sum(other)
		if before, ok := seen[sum]; ok {
			t.Fatalf("one digest with others at %d and %d", before, i)
		}
		seen[sum] = i
		if i%50 == 0 {
			b.has(other, want)
		}
		b.drop(other)
		delete(want, i)
		if ok {
			want[i] = was
		}
	}
	b.drop(one)
	b.drop(two)
	b.empty("let go")
}

// P13.1: within a Try that fails whatever was done is as if it had never been.
func TestUndone(t *testing.T) {
	b, root := tall(t)
	bytes := map[int]string{}
	for _, at := range b.h.All() {
		bytes[at] = b.on(at)
	}
	b.fails(api.ErrNone, func() {
		m := b.m.Set(root, 300, b.x.Put(data("new")))
		m = b.m.Set(m, 0, 0)
		b.m.Share(m)
		b.h.Try(func() { b.m.Drop(b.m.Set(m, 300, 0)) })
		b.m.Drop(m)
		pack.Fail(api.ErrNone)
	})
	for at, s := range bytes {
		if b.on(at) != s {
			t.Errorf("sector %d was changed", at)
		}
	}
	b.fails(api.ErrNone, func() { b.m.Drop(root); pack.Fail(api.ErrNone) })
	b.drop(root)
	b.empty("let go")
}

// P13.1, P13.2: a heap that begins with sector 0, which as a root would be a map without extents.
func TestFromNought(t *testing.T) {
	for free := range 12 {
		b := newBox(t, 60, 0)
		root, want := 0, map[int]string{}
		for i := range 12 {
			at := 40 * i
			want[at] = data("an extent", string(rune('a'+i)))
			var x int
			b.works(func() {
				x = b.x.Put(want[at])
				if i == free { // sector 0 is the least free one when nodes are put
					root = b.m.Set(root, at, x)
				}
			})
			if i != free {
				b.works(func() { root = b.m.Set(root, at, x) })
			}
			if root == 0 || b.h.Refs(0) != 0 {
				t.Fatalf("Set: %d", root)
			}
			if i%4 == 3 {
				root = b.set(root, at, noughts(256))
				delete(want, at)
			}
		}
		b.has(root, want)
		b.drop(root)
		b.empty("let go")
	}
}

// P13.2, P13.4: a map of all extents there are, each another one, and of all the same.
func TestFull(t *testing.T) {
	b := newBox(t, api.MaxDevice, 2)
	want := map[int]string{}
	root := 0
	for i := range 512 {
		at := i * 37 % 512
		want[at] = data("full", string([]byte{1, byte(at >> 8), byte(at)}))
		root = b.set(root, at, want[at])
	}
	b.has(root, want)
	if b.h.Held() != 1+8+64+512*3 {
		t.Errorf("%d held", b.h.Held())
	}
	b.share(root)
	other := root
	b.works(func() {
		for at := range 512 {
			want[at] = data("the same")
			other = b.m.Set(other, at, b.x.Put(want[at]))
		}
	})
	b.has(other, want)
	if b.h.Held() != 2*(1+8+64)+512*3+2 {
		t.Errorf("%d held", b.h.Held())
	}
	b.drop(root)
	b.refs("all the same", map[int]int{b.path(other, 0)[3]: 512})
	b.drop(other)
	b.empty("let go")
}
