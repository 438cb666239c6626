package catalog_test

import (
	"fmt"
	"slices"
	"testing"

	"stereobate/api"
	"stereobate/catalog"
	"stereobate/heap"
	"stereobate/pack"
)

// P15.1: the document's example, and none dropped and adopted, with power or without, room or none.
func TestNone(t *testing.T) {
	b := newBox(t, 3, 2)
	for range 2 {
		for _, l := range [][]catalog.Entry{nil, {}} {
			if head := b.save(l...); head != 0 {
				t.Errorf("Save: %d", head)
			}
		}
		b.drop(0)
		if l := b.adopt(0, api.OK); len(l) != 0 {
			t.Errorf("Adopt: %v", l)
		}
		b.counts("calls of none", 1, 0)
		b.cut()
	}
	b.whole()
	b.hold(2)
	b.save()
	b.drop(0)
	b.adopt(0, api.OK)
	b.counts("calls of none without room", 0, 0, 2)
}

// P15.1, P15.2: so many entries: the last one is put first, each says where the one behind it lies.
func TestSave(t *testing.T) {
	next := noise(5)
	for n := 1; n <= 20; n++ {
		b := newBox(t, 30, 4)
		l := rising(next, n)
		if head := b.save(l...); head != 4+n-1 {
			t.Errorf("Save of %d: %d", n, head)
		}
		var at []int
		for i, x := range l {
			behind := 4 + n - 2 - i
			if i == n-1 {
				behind = 0
			}
			at = append(at, 4+i)
			if s := b.on(4 + n - 1 - i); s != sealed(laid(x, behind)) {
				t.Errorf("entry %d of %d: % x", i, n, s)
			}
			if b.h.Refs(4+i) != 1 {
				t.Errorf("entry %d of %d: wanted by %d", i, n, b.h.Refs(4+i))
			}
		}
		b.counts("Save", 26-n, 0, at...)
		b.has(4+n-1, l, at...)
	}
}

// P15.2: entries lie where there is room between others.
func TestSaveBetween(t *testing.T) {
	next := noise(6)
	for range 200 {
		b := newBox(t, 40, 2)
		var free []int
		for at := 2; at < 40; at++ {
			if next(2) == 0 {
				b.hold(at)
			} else {
				free = append(free, at)
			}
		}
		l := rising(next, next(len(free))+1)
		head := b.save(l...)
		free = free[:len(l)]
		if head != free[len(l)-1] {
			t.Errorf("Save: %d, not %d", head, free[len(l)-1])
		}
		b.has(head, l, free...)
	}
}

// P15.1: entries that may not be are put as they are: none of Save's errors speaks of them. Drop reads them.
func TestSaveAny(t *testing.T) {
	b := newBox(t, 20, 2)
	l := []catalog.Entry{{}, {ID: 5, Size: 65535, Root: 65535}, {ID: 5, Size: 1}, {ID: 2, Size: 1}}
	if head := b.save(l...); head != 5 {
		t.Errorf("Save: %d", head)
	}
	for i, x := range l {
		behind := 4 - i
		if behind == 1 {
			behind = 0
		}
		if s := b.on(5 - i); s != sealed(laid(x, behind)) {
			t.Errorf("entry %d: % x", i, s)
		}
	}
	b.refused(api.ErrForm, func() { catalog.Drop(b.h, 5) })
	b.refused(api.ErrForm, func() { catalog.Drop(b.h, 4) })
	b.drop(3) // numbers that don't rise are no matter there
	b.counts("Drop", 16, 0, 4, 5)
}

// P15.1, K3: what was handed in stays as it is, and isn't kept.
func TestSaveKeeps(t *testing.T) {
	b := newBox(t, 20, 2)
	l := rising(noise(7), 5)
	was := slices.Clone(l)
	head := b.save(l...)
	if !slices.Equal(l, was) {
		t.Errorf("behind Save: %+v", l)
	}
	for i := range l {
		l[i] = catalog.Entry{}
	}
	b.has(head, was, 2, 3, 4, 5, 6)
}

// P15.1: with less room than entries nothing is put, by what Keep leaves and by what there is.
func TestSaveNoRoom(t *testing.T) {
	l := rising(noise(8), 6)
	for room := range 9 {
		b := newBox(t, 5+room, 2)
		b.hold(3, 4)
		for keep := range room + 2 {
			b.works(func() { b.h.Keep(keep) })
			n := max(room+1-keep, 0) // sector 2 is free, too
			for want := 0; want <= 6; want++ {
				run := func() { catalog.Save(b.h, l[:want]) }
				if want > n {
					b.refused(api.ErrSpace, run)
					continue
				}
				was, head := b.state(), b.save(l[:want]...)
				b.drop(head)
				b.is("Save and Drop", was)
			}
		}
	}
}

// P15.1: the power is cut at each entry: nothing is put.
func TestSaveCut(t *testing.T) {
	l := rising(noise(9), 6)
	for left := range 6 {
		b := newBox(t, 20, 2)
		b.hold(3)
		was := b.state()
		b.works(func() {
			b.d.Arm(left)
			if e := pack.Guard(func() { catalog.Save(b.h, l) }); e != api.ErrCut {
				t.Errorf("Save: %d", e)
			}
			b.is("within a Try that goes on", was)
		})
		b.refused(api.ErrCut, func() { catalog.Save(b.h, l) })
		b.whole()
		b.d.Arm(left)
		if e := b.h.Try(func() { catalog.Save(b.h, l) }); e != api.ErrCut {
			t.Errorf("Save: %d", e)
		}
		b.is("behind a Try that failed", was)
	}
	b := newBox(t, 20, 2)
	b.d.Arm(6)
	b.has(b.save(l...), l, 2, 3, 4, 5, 6, 7)
}

// P15.2: of a heap that begins with sector 0 that is passed over, as its number tells that there is none.
func TestSaveNought(t *testing.T) {
	l := rising(noise(10), 3)
	b := newBox(t, 10, 0)
	head := b.save(l...)
	if head != 3 {
		t.Errorf("Save: %d", head)
	}
	b.counts("Save", 7, 0, 1, 2, 3)
	b.has(head, l, 1, 2, 3)
	b.drop(head)
	b.counts("Drop", 10, 0)
}

// P15.1: a heap's young entries are free behind the Try in which they are dropped, others behind a Settle.
func TestDrop(t *testing.T) {
	next := noise(11)
	for n := 1; n <= 16; n++ {
		b := newBox(t, 30, 3)
		b.hold(5)
		was := b.state()
		l := rising(next, n)
		b.drop(b.save(l...))
		b.is("Drop of young ones", was)
		head := b.save(l...)
		b.h.Settle()
		b.drop(head)
		b.counts("Drop", 26-n, n, 5)
		b.h.Settle()
		b.is("Settle", was)
		c := b.again(3)
		c.hold(5)
		c.adopt(head, api.OK)
		c.drop(head)
		c.counts("Drop of adopted ones", 26-n, n, 5)
	}
}

// P15.1: entries are wanted by one less, each; of those that others want, too, none goes.
func TestDropWanted(t *testing.T) {
	b := newBox(t, 20, 2)
	head := b.save(rising(noise(12), 4)...)
	b.works(func() { b.h.More(head); b.h.More(3); b.h.More(3) })
	b.drop(head)
	b.counts("Drop", 16, 0, 3, head)
	if b.h.Refs(head) != 1 || b.h.Refs(3) != 2 {
		t.Errorf("wanted by %d, %d", b.h.Refs(head), b.h.Refs(3))
	}
	b.refused(api.ErrRange, func() { catalog.Drop(b.h, head) }) // the second one isn't held any more
}

// P15.1: a Drop from an entry within on lets go what lies behind it alone.
func TestDropBehind(t *testing.T) {
	b := newBox(t, 20, 2)
	b.save(rising(noise(13), 5)...)
	b.drop(4)
	b.counts("Drop", 16, 0, 5, 6)
}

// P15.1: an entry that can't be read, or isn't held, whichever of them: none has been dropped.
func TestDropRefused(t *testing.T) {
	l := rising(noise(14), 5)
	for at := 2; at < 7; at++ {
		b := newBox(t, 20, 2)
		head := b.save(l...)
		drop := func() { catalog.Drop(b.h, head) }
		for by := range 64 {
			b.spoil(at, by)
			b.refused(api.ErrSum, drop)
			b.spoil(at, by)
		}
		good := b.on(at)
		for _, body := range []string{with(good[:60], 0, 'N'), with(good[:60], 9, 2), with(good[:60], 10, 0, 0), with(good[:60], 59, 1), with(good[:60], 1, 0, 0, 0, 0)} {
			b.write(at, sealed(body))
			b.refused(api.ErrForm, drop)
		}
		b.write(at, good)
		b.works(func() { b.h.Less(at) })
		b.refused(api.ErrRange, drop)
	}
	for _, head := range []int{1, 19, 20, 4096, -1, 1 << 40} { // none that Save answered, but the errors are named
		b := newBox(t, 20, 2)
		b.save(l...)
		b.refused(api.ErrRange, func() { catalog.Drop(b.h, head) })
	}
	b := newBox(t, 20, 2)
	head := b.save(l...)
	b.cut()
	b.refused(api.ErrCut, func() { catalog.Drop(b.h, head) })
}

// P15.1: entries that came to be a ring are let go till one isn't held; then all are there as ahead of it.
func TestDropRing(t *testing.T) {
	b := newBox(t, 20, 2)
	head := b.save(rising(noise(15), 4)...)
	b.write(2, catalog.Entry{ID: 9, Size: 1}.Bytes(head))
	b.works(func() {
		for at := 2; at < 6; at++ {
			b.h.More(at)
			b.h.More(at)
		}
	})
	b.refused(api.ErrRange, func() { catalog.Drop(b.h, head) })
}

// P15.1: what a Try did with catalogs that fails is undone.
func TestUndone(t *testing.T) {
	b := newBox(t, 20, 2)
	l := rising(noise(16), 4)
	head := b.save(l...)
	was := b.state()
	if e := b.h.Try(func() {
		catalog.Drop(b.h, catalog.Save(b.h, l[1:]))
		catalog.Save(b.h, l[2:])
		catalog.Drop(b.h, head)
		pack.Fail(api.ErrKind)
	}); e != api.ErrKind {
		t.Errorf("Try: %d", e)
	}
	b.is("undone", was)
	b.has(head, l, 2, 3, 4, 5)
}

// P15.2: as a checkpoint does it: the next catalog is saved and the last one dropped in one Try, and none of
// that is written over ahead of the Settle.
func TestTurn(t *testing.T) {
	next := noise(17)
	b := newBox(t, 40, 2)
	var l []catalog.Entry
	head := 0
	for range 200 {
		to, turned := rising(next, next(17)), 0
		b.works(func() {
			turned = catalog.Save(b.h, to)
			catalog.Drop(b.h, head)
		})
		c := b.again(2)
		if got := c.adopt(head, api.OK); !slices.Equal(got, l) {
			t.Fatalf("the one ahead: %+v, not %+v", got, l)
		}
		if b.h.Held() != len(to) || b.h.Late() != len(l) {
			t.Fatalf("%d are held, %d late", b.h.Held(), b.h.Late())
		}
		b.h.Settle()
		b.has(turned, to, b.h.All()...)
		l, head = to, turned
	}
}

// P15.1, P15.2: what is adopted is held once, and wanted by one.
func TestAdopt(t *testing.T) {
	next := noise(18)
	b := newBox(t, 60, 4)
	lists, heads := [][]catalog.Entry{}, []int{}
	for n := range 8 {
		lists = append(lists, rising(next, n))
		heads = append(heads, b.save(lists[n]...))
	}
	c := b.again(4)
	held := 0
	for i, head := range slices.Backward(heads) {
		if got := c.adopt(head, api.OK); !slices.Equal(got, lists[i]) {
			t.Errorf("Adopt(%d): %+v, not %+v", head, got, lists[i])
		}
		held += i
		if c.h.Held() != held {
			t.Errorf("%d are held, not %d", c.h.Held(), held)
		}
	}
	c.is("adopted", b.state())
	for _, head := range heads {
		c.drop(head)
	}
	c.counts("Drop", 56-held, held) // none of them is young
}

// P15.1: sectors that aren't free, that aren't the heap's, that aren't there: at the front, and behind an entry.
func TestAdoptRange(t *testing.T) {
	for _, c := range []struct {
		at   int
		want api.Errno
	}{
		{1, api.ErrRange}, {2, api.ErrRange}, {20, api.ErrRange}, {4096, api.ErrRange}, {65535, api.ErrRange},
		{-1, api.ErrRange}, {-1 << 63, api.ErrRange}, {1<<63 - 1, api.ErrRange}, {1 << 16, api.ErrRange}, {1<<32 + 5, api.ErrRange},
		{9, api.ErrRange}, // late
		{8, api.ErrForm},  // held by somebody else
		{3, api.ErrSum},   // noughts
		{5, api.OK},
	} {
		lay := func() *box {
			b := newBox(t, 20, 3)
			b.hold(8, 9)
			b.works(func() { b.h.Less(9) })
			b.write(5, catalog.Entry{ID: 20, Size: 1}.Bytes(0))
			return b
		}
		lay().adopt(c.at, c.want)
		if c.at == c.at&65535 {
			b := lay()
			b.write(6, catalog.Entry{ID: 19, Size: 1}.Bytes(c.at))
			b.adopt(6, c.want)
		}
	}
}

// P15.1: rings of entries, of each length, entered from without or not; the IDs rise till the ring shuts.
func TestAdoptRing(t *testing.T) {
	for n := 1; n < 10; n++ {
		for back := range n {
			b := newBox(t, 20, 2)
			for i := range n {
				next := 2 + i + 1
				if i == n-1 {
					next = 2 + back
				}
				b.write(2+i, catalog.Entry{ID: uint32(1 + i), Size: 1}.Bytes(next))
			}
			b.adopt(2, api.ErrForm)
		}
	}
}

// P15.1: a catalog that was saved or adopted can't be adopted again, whole or from within.
func TestAdoptAgain(t *testing.T) {
	for at := 2; at < 6; at++ {
		b := newBox(t, 20, 2)
		head := b.save(rising(noise(19), 4)...)
		b.adopt(at, api.ErrForm)
		c := b.again(2)
		c.adopt(head, api.OK)
		c.adopt(at, api.ErrForm)
	}
}

// P15.1: an entry that can't be read, or is none, whichever of them.
func TestAdoptRefused(t *testing.T) {
	b := newBox(t, 20, 2)
	head := b.save(rising(noise(20), 5)...)
	for at := 2; at < 7; at++ {
		for by := range 64 {
			c := b.again(2)
			c.spoil(at, by)
			c.adopt(head, api.ErrSum)
		}
		good := b.on(at)[:60]
		for _, body := range []string{with(good, 0, 'E'), with(good, 9, 2), with(good, 10, 8, 1), with(good, 10, 0, 0), with(good, 20, 1), with(good, 1, 0, 0, 0, 0)} {
			c := b.again(2)
			c.write(at, sealed(body))
			c.adopt(head, api.ErrForm)
		}
	}
	b = b.again(2)
	b.cut()
	b.adopt(head, api.ErrCut)
}

// P15.1: each ID must be above the one's ahead.
func TestAdoptRising(t *testing.T) {
	for _, c := range []struct {
		ids  []uint32
		want api.Errno
	}{
		{[]uint32{1}, api.OK},
		{[]uint32{1<<32 - 1}, api.OK},
		{[]uint32{1, 2, 3}, api.OK},
		{[]uint32{1, 1 << 31, 1<<32 - 1}, api.OK},
		{[]uint32{1<<31 - 1, 1 << 31}, api.OK},
		{[]uint32{1, 1}, api.ErrForm},
		{[]uint32{2, 1}, api.ErrForm},
		{[]uint32{1, 2, 2}, api.ErrForm},
		{[]uint32{5, 7, 6, 8}, api.ErrForm},
		{[]uint32{5, 7, 4, 8}, api.ErrForm},
		{[]uint32{1 << 31, 1}, api.ErrForm},
		{[]uint32{1<<32 - 1, 1}, api.ErrForm},
		{[]uint32{256, 255}, api.ErrForm},
	} {
		b := newBox(t, 20, 2)
		var l []catalog.Entry
		for _, id := range c.ids {
			l = append(l, catalog.Entry{ID: id, Size: 1})
		}
		head := b.save(l...)
		if got := b.again(2).adopt(head, c.want); c.want == api.OK && !slices.Equal(got, l) {
			t.Errorf("%v: %+v", c.ids, got)
		}
	}
}

// K2: of several errors of one entry the one that is named first; of several entries that of the first one.
func TestAdoptOrder(t *testing.T) {
	next := func(id uint32, at int) string { return catalog.Entry{ID: id, Size: 1}.Bytes(at) }
	for i, c := range []struct {
		third string
		at    int // where the second one says that the third one lies
		want  api.Errno
	}{
		{next(3, 0), 4, api.OK},
		{next(3, 5), 4, api.ErrSum}, // the fourth one
		{next(2, 5), 4, api.ErrForm},
		{"x", 4, api.ErrSum},
		{next(0, 5), 4, api.ErrForm},
		{"x", 8, api.ErrForm}, // held
		{"x", 1, api.ErrRange},
	} {
		b := newBox(t, 20, 2)
		b.hold(8)
		b.write(2, next(1, 3))
		b.write(3, next(2, c.at))
		b.write(4, c.third)
		b.write(8, c.third)
		if e := pack.Guard(func() { catalog.Adopt(b.h, 2) }); e != c.want {
			t.Errorf("case %d: %d, not %d", i, e, c.want)
		}
	}
	for at, want := range map[int]api.Errno{1: api.ErrRange, 20: api.ErrRange, 8: api.ErrForm, 2: api.ErrCut} {
		b := newBox(t, 20, 2)
		b.hold(8)
		b.cut()
		b.adopt(at, want)
	}
}

// P15.2: a catalog as great as a device.
func TestMany(t *testing.T) {
	b := newBox(t, api.MaxDevice, 2)
	l := rising(noise(21), api.MaxDevice-2)
	b.refused(api.ErrSpace, func() { catalog.Save(b.h, append(slices.Clone(l), l[0])) })
	head := b.save(l...)
	if head != api.MaxDevice-1 || b.h.Free() != 0 {
		t.Errorf("Save: %d, %d are free", head, b.h.Free())
	}
	c := b.again(2)
	if got := c.adopt(head, api.OK); !slices.Equal(got, l) {
		t.Errorf("Adopt: %d entries", len(got))
	}
	b.drop(head)
	b.counts("Drop", api.MaxDevice-2, 0)
}

// P15.2: what was saved behind the last Sync, torn behind each byte of each of its sectors: all of it is
// there, or an error. What was saved ahead of it is there.
func TestTorn(t *testing.T) {
	next := noise(22)
	for range 30 {
		b := newBox(t, 12, 2)
		for at := 2; at < 12; at++ {
			b.write(at, some(next, 64))
		}
		sure := rising(next, 3)
		first := b.save(sure...)
		if e := pack.Guard(b.d.Sync); e != api.OK {
			t.Fatalf("Sync: %d", e)
		}
		l := rising(next, 3)
		second := b.save(l...)
		for torn := range 3 {
			for cut := range 65 {
				d := b.d.Clone()
				cuts := []int{64, 64, 64}
				cuts[torn] = cut
				d.Crash(cuts...)
				c := &box{t, d, heap.New(d, 2)}
				if got := c.adopt(first, api.OK); !slices.Equal(got, sure) {
					t.Fatalf("what was sure: %+v", got)
				}
				whole := c.on(5+torn) == b.on(5+torn)
				want := api.ErrSum
				if whole {
					want = api.OK
				}
				if got := c.adopt(second, want); whole && !slices.Equal(got, l) {
					t.Fatalf("torn at %d: %+v", cut, got)
				}
			}
		}
	}
}

// P15.1: two heaps of one disk's clones go their own ways; what Adopt answered stays.
func TestApart(t *testing.T) {
	b := newBox(t, 20, 2)
	l := rising(noise(23), 3)
	head := b.save(l...)
	c := b.again(2)
	got := c.adopt(head, api.OK)
	told := fmt.Sprint(got)
	b.drop(head)
	b.save(rising(noise(24), 6)...)
	c.drop(head)
	c.h.Settle()
	c.save(rising(noise(25), 6)...)
	if fmt.Sprint(got) != told {
		t.Errorf("what Adopt answered: %v", got)
	}
}
