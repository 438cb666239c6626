package extent_test

import (
	"crypto/sha256"
	"math"
	"slices"
	"strings"
	"testing"

	"stereobate/api"
	"stereobate/disk"
	"stereobate/extent"
	"stereobate/heap"
	"stereobate/pack"
	"stereobate/sha"
)

// box is a store, with what it lies in.
type box struct {
	t *testing.T
	d *disk.Disk
	h *heap.Heap
	x *extent.Store
}

func newBox(t *testing.T, n, from, bits int) *box {
	d := disk.New(n)
	h := heap.New(d, from)
	return &box{t, d, h, extent.New(h, bits)}
}

// fails: a Try that ends with that error, behind which all must be as it was.
func (b *box) fails(want api.Errno, run func()) {
	b.t.Helper()
	was := b.state()
	if e := b.h.Try(run); e != want {
		b.t.Errorf("Try: %d, not %d", e, want)
	}
	if want != api.OK {
		b.is("behind a Try that failed", was)
	}
}

// caught: one call that fails so in a Guard of a Try that goes on; nothing has changed, within and behind it.
func (b *box) caught(want api.Errno, run func()) {
	b.t.Helper()
	was := b.state()
	b.h.Try(func() {
		if e := pack.Guard(run); e != want {
			b.t.Errorf("a call: %d, not %d", e, want)
		}
		b.is("within a Try that goes on", was)
	})
	b.is("behind a Try that went on", was)
}

// works: a Try that doesn't fail.
func (b *box) works(run func()) {
	b.t.Helper()
	b.fails(api.OK, run)
}

// refused: a call that fails so, by itself or in a Guard.
func (b *box) refused(want api.Errno, run func()) {
	b.t.Helper()
	b.fails(want, run)
	b.caught(want, run)
}

// state is all that can be seen of a box, but for the power.
type state struct {
	count, free, late int
	held, refs        []int
}

func (b *box) state() state {
	s := state{count: b.x.Count(), free: b.h.Free(), late: b.h.Late(), held: b.h.All()}
	for _, at := range s.held {
		s.refs = append(s.refs, b.h.Refs(at))
	}
	return s
}

func (b *box) is(what string, want state) {
	b.t.Helper()
	s := b.state()
	if s.count != want.count || s.free != want.free || s.late != want.late || !slices.Equal(s.held, want.held) || !slices.Equal(s.refs, want.refs) {
		b.t.Errorf("%s: %+v, not %+v", what, s, want)
	}
}

// counts: how many are kept, are free, are late, and which are held.
func (b *box) counts(what string, count, free, late int, held ...int) {
	b.t.Helper()
	s := b.state()
	if s.count != count || s.free != free || s.late != late || !slices.Equal(s.held, held) {
		b.t.Errorf("%s: %+v, not %d, %d, %d, %v", what, s, count, free, late, held)
	}
}

// put: a Put in a Try of its own that works.
func (b *box) put(data string) int {
	b.t.Helper()
	at := 0
	b.works(func() { at = b.x.Put(data) })
	return at
}

// less: a Less in a Try of its own that works.
func (b *box) less(at int) {
	b.t.Helper()
	b.works(func() { b.x.Less(at) })
}

// has: an extent's bytes, its sum, and its sectors.
func (b *box) has(at int, data string, parts ...int) {
	b.t.Helper()
	b.works(func() {
		if s := b.x.Get(at); s != data {
			b.t.Errorf("Get(%d): %q, not %q", at, s, data)
		}
		want := sha.Sum(sha256.Sum256([]byte(data)))
		if at == 0 {
			want = sha.Sum{}
		}
		if s := b.x.Sum(at); s != want {
			b.t.Errorf("Sum(%d): %s", at, s.Hex())
		}
		if l := b.x.Parts(at); !slices.Equal(l, parts) {
			b.t.Errorf("Parts(%d): %v, not %v", at, l, parts)
		}
	})
}

// on: what lies in a sector of the disk.
func (b *box) on(at int) string {
	s := ""
	pack.Guard(func() { s = b.d.Read(at) })
	return s
}

// write: bytes on the disk, whatever the heap has there.
func (b *box) write(at int, s string) {
	b.t.Helper()
	if e := pack.Guard(func() { b.d.Write(at, s) }); e != api.OK {
		b.t.Fatalf("Write(%d): %d", at, e)
	}
}

// spoil: a byte of a sector, and, asked again, it is whole again.
func (b *box) spoil(at, by int) {
	pack.Guard(func() { b.d.Spoil(at, by, 0x10) })
}

// cut: the power is cut.
func (b *box) cut() {
	b.d.Arm(0)
	pack.Guard(b.d.Sync)
}

// whole: there is power again, and all that was written.
func (b *box) whole() {
	b.d.Crash(slices.Repeat([]int{64}, b.d.Len())...)
}

// data: an extent of four sectors, each of which begins with these bytes; "": it is all bytes 0.
func data(a, b, c, d string) string {
	s := ""
	for _, p := range []string{a, b, c, d} {
		s += p + noughts(64-len(p))
	}
	return s
}

// P11.1: an extent with all its sectors, byte by byte, as it lies on the disk.
func TestLaid(t *testing.T) {
	b := newBox(t, 12, 3, 256)
	s := some(noise(3), 256)
	if at := b.put(s); at != 7 {
		t.Fatalf("Put: %d", at)
	}
	x := extent.Head{At: [4]int{3, 4, 5, 6}, Sum: sha.Sum(sha256.Sum256([]byte(s)))}
	for i := range 4 {
		part := s[64*i : 64*i+64]
		x.Sums[i] = check(part)
		if b.on(3+i) != part {
			t.Errorf("sector %d: %q", 3+i, b.on(3+i))
		}
	}
	if b.on(7) != sealed(laid(x)) {
		t.Errorf("the head: % x", b.on(7))
	}
	b.counts("Put", 1, 4, 0, 3, 4, 5, 6, 7)
	b.has(7, s, 3, 4, 5, 6)
}

// P11.1: of each choice of sectors those alone are put that aren't all bytes 0, in their order, then the head.
func TestSome(t *testing.T) {
	for set := range 16 {
		b := newBox(t, 20, 5, 256)
		var p [4]string
		x, next := extent.Head{}, 5
		for i := range 4 {
			if set>>i&1 == 1 {
				p[i] = strings.Repeat("\x00", 63) + string(rune('a'+i))
				x.At[i], x.Sums[i] = next, check(p[i])
				next++
			}
		}
		s := data(p[0], p[1], p[2], p[3])
		x.Sum = sha.Sum(sha256.Sum256([]byte(s)))
		at := b.put(s)
		if set == 0 {
			b.counts("noughts", 0, 15, 0)
			next, x.Sum = 0, sha.Sum{}
		} else if b.on(at) != x.Bytes() {
			t.Errorf("set %04b: the head: % x", set, b.on(at))
		}
		if at != next {
			t.Errorf("set %04b: Put: %d, not %d", set, at, next)
		}
		var parts []int
		for _, p := range x.At {
			if p != 0 {
				parts = append(parts, p)
			}
		}
		b.has(at, s, parts...)
		if b.h.Held() != extent.Cost(s) {
			t.Errorf("set %04b: %d held, Cost %d", set, b.h.Held(), extent.Cost(s))
		}
	}
}

// P11.1: an extent of bytes 0 isn't kept, and none of the calls of it does anything, with power or without.
func TestNought(t *testing.T) {
	b := newBox(t, 10, 2, 256)
	b.put(data("a", "", "", ""))
	was := b.state()
	for range 2 {
		for range 3 {
			if at := b.put(noughts(256)); at != 0 {
				t.Errorf("Put: %d", at)
			}
		}
		b.has(0, noughts(256))
		b.works(func() { b.x.More(0); b.x.Less(0); b.x.Less(0) })
		if e := pack.Guard(func() { b.x.Adopt(0) }); e != api.OK {
			t.Errorf("Adopt(0): %d", e)
		}
		b.is("calls of 0", was)
		b.cut()
	}
}

// P11.1: what hasn't Len bytes, bytes 0 among it, with room or without, with power or without.
func TestPutLength(t *testing.T) {
	b := newBox(t, 4, 2, 256)
	for range 2 {
		for _, n := range []int{0, 1, 63, 64, 255, 257, 320, 512, 70000} {
			b.refused(api.ErrArg, func() { b.x.Put(strings.Repeat("x", n)) })
			b.refused(api.ErrArg, func() { b.x.Put(noughts(n)) })
		}
		b.cut()
	}
}

// P11.2: an extent that is put again is the same one, and isn't written: it is wanted by one more.
func TestOnce(t *testing.T) {
	b := newBox(t, 40, 2, 256)
	next := noise(4)
	a, c := some(next, 256), data("", "b", "", "d")
	atA, atC := b.put(a), b.put(c)
	was := b.state()
	b.d.Arm(0)
	for n := 2; n < 10; n++ {
		if at := b.put(a); at != atA || b.h.Refs(atA) != n {
			t.Errorf("Put again: %d, wanted by %d", at, b.h.Refs(at))
		}
	}
	if at := b.put(c); at != atC || b.h.Refs(atC) != 2 {
		t.Errorf("Put again: %d, wanted by %d", at, b.h.Refs(at))
	}
	for _, at := range was.held {
		if at != atA && at != atC && b.h.Refs(at) != 1 {
			t.Errorf("sector %d: wanted by %d", at, b.h.Refs(at))
		}
	}
	b.counts("Put again", 2, was.free, 0, was.held...)
	b.whole()
	b.has(atA, a, 2, 3, 4, 5)
	b.has(atC, c, 7, 8)
}

// P11.2, P11.3: More and Less: it is there as long as one wants it, and then nothing of it is held.
func TestWanted(t *testing.T) {
	b := newBox(t, 20, 2, 256)
	s := data("a", "", "c", "d")
	keep := b.put(data("k", "", "", ""))
	at := b.put(s)
	for range 5 {
		b.works(func() { b.x.More(at) })
	}
	b.put(s)
	for n := 7; n > 1; n-- {
		if b.h.Refs(at) != n {
			t.Errorf("wanted by %d, not %d", b.h.Refs(at), n)
		}
		b.less(at)
		b.has(at, s, 4, 5, 6)
		b.counts("Less", 2, 12, 0, 2, 3, 4, 5, 6, 7)
	}
	b.less(at)
	b.counts("Less to nobody", 1, 16, 0, 2, 3)
	b.has(keep, data("k", "", "", ""), 2)
	if again := b.put(s); again != at {
		t.Errorf("Put behind Less: %d", again)
	}
	b.less(keep)
	b.has(at, s, 4, 5, 6)
	b.less(at)
	b.counts("all are let go", 0, 18, 0)
}

// P11.3: what was let go behind a Settle is late, and is put elsewhere till the next one.
func TestLate(t *testing.T) {
	b := newBox(t, 12, 2, 256)
	s := data("a", "b", "", "")
	at := b.put(s)
	b.h.Settle()
	b.less(at)
	b.counts("Less", 0, 7, 3)
	again := b.put(s)
	if again != 7 {
		t.Errorf("Put: %d", again)
	}
	b.has(again, s, 5, 6)
	b.h.Settle()
	b.counts("Settle", 1, 7, 0, 5, 6, 7)
}

// P11.1: a Put for which there isn't room, at each of its sectors, changes nothing; with room for just that it is put.
func TestPutSpace(t *testing.T) {
	for _, s := range []string{data("a", "", "", ""), data("", "b", "", "d"), data("a", "b", "c", ""), data("a", "b", "c", "d")} {
		cost := extent.Cost(s)
		for room := range 7 {
			for keep := range 3 {
				b := newBox(t, 4+room+keep, 2, 256)
				if at := b.put(data("", "x", "", "")); at != 3 {
					t.Fatalf("Put: %d", at)
				}
				b.works(func() { b.h.Keep(keep) })
				if room < cost {
					b.refused(api.ErrSpace, func() { b.x.Put(s) })
					b.has(3, data("", "x", "", ""), 2)
					continue
				}
				if at := b.put(s); at != 3+cost || b.x.Count() != 2 {
					t.Errorf("room for %d: Put: %d", room, at)
				}
			}
		}
	}
}

// P11.1: within a Try that goes on behind a Put that failed the next one is put where that would have been.
func TestPutGoesOn(t *testing.T) {
	b := newBox(t, 7, 2, 256)
	big, small := data("a", "b", "c", "d"), data("a", "b", "", "")
	b.works(func() {
		first := b.x.Put(data("f", "", "", ""))
		if e := pack.Guard(func() { b.x.Put(big) }); e != api.ErrSpace {
			t.Errorf("Put: %d", e)
		}
		b.counts("within", 1, 3, 0, 2, 3)
		if at := b.x.Put(small); at != 6 || first != 3 {
			t.Errorf("Put: %d, %d", first, at)
		}
	})
	b.counts("behind it", 2, 0, 0, 2, 3, 4, 5, 6)
	b.has(6, small, 4, 5)
}

// P11.1: the power is cut in a Put, at each of its writes: nothing has changed but that.
func TestPutCut(t *testing.T) {
	s := data("a", "b", "", "d")
	for n := range 4 {
		for _, guard := range []bool{false, true} {
			b := newBox(t, 20, 2, 256)
			x := b.put(data("x", "", "", ""))
			b.d.Arm(n)
			run := func() { b.x.Put(s) }
			if guard {
				b.caught(api.ErrCut, run)
			} else {
				b.fails(api.ErrCut, run)
			}
			if !b.d.Dead() {
				t.Errorf("%d writes: there is power", n)
			}
			b.refused(api.ErrCut, func() { b.x.Put(s) })
			b.refused(api.ErrCut, func() { b.x.Put(data("x", "", "", "")) })
			b.whole()
			if at := b.put(s); at != 7 {
				t.Errorf("power again: Put: %d", at)
			}
			b.has(x, data("x", "", "", ""), 2)
			b.has(7, s, 4, 5, 6)
		}
	}
	b := newBox(t, 20, 2, 256)
	b.d.Arm(4)
	if at := b.put(s); at != 5 || b.d.Dead() {
		t.Errorf("as many writes as it takes: %d", at)
	}
}

// P11.1: without power More works, as it reads nothing; the others don't, and change nothing.
func TestCut(t *testing.T) {
	b := newBox(t, 20, 2, 256)
	at := b.put(data("a", "b", "", ""))
	b.cut()
	b.works(func() { b.x.More(at) })
	if b.h.Refs(at) != 2 {
		t.Errorf("More: wanted by %d", b.h.Refs(at))
	}
	for _, run := range b.calls(at) {
		b.refused(api.ErrCut, run)
	}
	b.whole()
	b.less(at)
	b.less(at)
	b.counts("let go", 0, 18, 0)
}

// calls: those of one that is kept, which read its head.
func (b *box) calls(at int) map[string]func() {
	return map[string]func(){
		"Get":   func() { b.x.Get(at) },
		"Sum":   func() { b.x.Sum(at) },
		"Parts": func() { b.x.Parts(at) },
		"Less":  func() { b.x.Less(at) },
	}
}

// P11.1: each byte of a head that is spoilt is told by all that read it; whole again, all is there.
func TestHeadSpoilt(t *testing.T) {
	b := newBox(t, 20, 2, 256)
	s := data("a", "b", "", "")
	at := b.put(s)
	for by := range 64 {
		b.spoil(at, by)
		for _, run := range b.calls(at) {
			b.refused(api.ErrSum, run)
		}
		b.refused(api.ErrSum, func() { b.x.Put(s) })
		b.works(func() { b.x.More(at) })
		b.spoil(at, by)
		b.has(at, s, 2, 3)
		b.less(at)
	}
	b.counts("whole again", 1, 15, 0, 2, 3, 4)
}

// P11.1: each byte of a sector that is spoilt is told by Get, and by Put of the same; the others don't read it.
func TestSectorSpoilt(t *testing.T) {
	b := newBox(t, 20, 2, 256)
	s := data("a", "b", "", "d")
	at := b.put(s)
	for part := 2; part < 5; part++ {
		for by := range 64 {
			b.spoil(part, by)
			b.refused(api.ErrSum, func() { b.x.Get(at) })
			b.refused(api.ErrSum, func() { b.x.Put(s) })
			b.works(func() {
				if b.x.Sum(at) != sha.Sum(sha256.Sum256([]byte(s))) || !slices.Equal(b.x.Parts(at), []int{2, 3, 4}) {
					t.Error("Sum, Parts of one with a spoilt sector")
				}
				b.x.More(at)
				b.x.Less(at)
			})
			b.spoil(part, by)
		}
	}
	b.has(at, s, 2, 3, 4)
	b.spoil(3, 3)
	b.less(at)
	b.counts("a spoilt one was let go", 0, 18, 0)
	if at := b.put(s); at != 5 {
		t.Errorf("Put: %d", at)
	}
	b.has(5, s, 2, 3, 4)
}

// P11.1: a whole sector that is no head is told so.
func TestHeadForm(t *testing.T) {
	b := newBox(t, 20, 2, 256)
	s := data("a", "", "", "")
	at := b.put(s)
	was := b.on(at)
	b.write(at, sealed("N"+was[1:60]))
	for _, run := range b.calls(at) {
		b.refused(api.ErrForm, run)
	}
	b.refused(api.ErrForm, func() { b.x.Put(s) })
	b.write(at, was)
	b.has(at, s, 2)
}

// P11.1: a sector of an extent that the heap hasn't any more: Get and Less fail, and Less changes nothing,
// though its head was let go by then.
func TestPartGone(t *testing.T) {
	b := newBox(t, 20, 2, 256)
	s := data("a", "b", "c", "")
	at := b.put(s)
	b.works(func() { b.h.Less(3) })
	b.refused(api.ErrRange, func() { b.x.Get(at) })
	b.refused(api.ErrRange, func() { b.x.Put(s) })
	b.refused(api.ErrRange, func() { b.x.Less(at) })
	if b.x.Count() != 1 || b.h.Refs(at) != 1 || b.h.Refs(2) != 1 {
		t.Errorf("Less: %+v", b.state())
	}
	b.works(func() { b.x.More(at); b.x.Less(at) })
	b.spoil(2, 0)
	b.refused(api.ErrSum, func() { b.x.Get(at) }) // sector by sector: the first one that isn't well
	b.spoil(4, 0)
	b.spoil(2, 0)
	b.refused(api.ErrRange, func() { b.x.Get(at) })
}

// P11.1: a head that isn't held any more.
func TestHeadGone(t *testing.T) {
	b := newBox(t, 20, 2, 256)
	s := data("a", "b", "c", "")
	at := b.put(s)
	b.works(func() { b.h.Less(at) })
	for _, run := range b.calls(at) {
		b.refused(api.ErrRange, run)
	}
	b.refused(api.ErrRange, func() { b.x.More(at) })
	b.refused(api.ErrRange, func() { b.x.Put(s) })
}

// found: two extents whose addresses are the same with so many bits, and unlike with one more.
func found(bits int) (string, string) {
	seen := map[sha.Sum]string{}
	for i := 1; ; i++ {
		s := data("find", string([]byte{byte(i >> 16), byte(i >> 8), byte(i)}), "", "")
		sum := sha.Of(s)
		if other, ok := seen[sum.Head(bits)]; ok && sha.Of(other).Head(bits+1) != sum.Head(bits+1) {
			return other, s
		} else if !ok {
			seen[sum.Head(bits)] = s
		}
	}
}

// P11.1: unlike extents with one address are refused, with each number of bits; with one more both are kept.
func TestClash(t *testing.T) {
	for bits := 1; bits < 15; bits++ {
		one, two := found(bits)
		b := newBox(t, 30, 2, bits)
		at := b.put(one)
		b.refused(api.ErrClash, func() { b.x.Put(two) })
		b.put(one)
		b.has(at, one, 2, 3)
		b.less(at)
		b.refused(api.ErrClash, func() { b.x.Put(two) })
		b.less(at)
		at = b.put(two)
		b.has(at, two, 2, 3)
		b.refused(api.ErrClash, func() { b.x.Put(one) })
		more := newBox(t, 30, 2, bits+1)
		more.has(more.put(one), one, 2, 3)
		more.has(more.put(two), two, 5, 6)
	}
}

// K2: of a Put that clashes the errors of Get are named first, and no room is needed.
func TestClashOrder(t *testing.T) {
	one, two := found(3)
	b := newBox(t, 5, 2, 3)
	at := b.put(one)
	b.refused(api.ErrClash, func() { b.x.Put(two) })
	b.put(one)
	b.spoil(2, 1)
	b.refused(api.ErrSum, func() { b.x.Put(two) })
	b.cut()
	b.refused(api.ErrCut, func() { b.x.Put(two) })
	b.whole()
	b.spoil(2, 1)
	b.has(at, one, 2, 3)
}

// P11.1: below 1 bit counts as 1, above 256 as 256.
func TestBits(t *testing.T) {
	one, two := found(1)
	for _, bits := range []int{math.MinInt, -256, -1, 0, 1, 2, 255, 256, 257, 1000, math.MaxInt} {
		b := newBox(t, 600, 2, bits)
		if b.x.Count() != 0 {
			t.Errorf("New: %d", b.x.Count())
		}
		b.put(one)
		if bits > 1 {
			b.put(two)
		} else {
			b.refused(api.ErrClash, func() { b.x.Put(two) })
		}
		kept := 0
		for i := range 100 {
			if b.h.Try(func() { b.x.Put(data("", "bits", "", string([]byte{byte(i + 1)}))) }) == api.OK {
				kept++
			}
		}
		switch n := b.x.Count(); {
		case bits <= 1 && n > 2, bits == 2 && n > 4, bits > 2 && (n != 102 || kept != 100):
			t.Errorf("%d bits: %d are kept", bits, n)
		}
		// With one bit one of each half is kept.
		if bits <= 1 && b.x.Count() != 2 {
			t.Errorf("%d bits: %d are kept", bits, b.x.Count())
		}
	}
}

// P11.1: what was put or let go in a Try that fails is as it was, with Tries within.
func TestUndone(t *testing.T) {
	b := newBox(t, 40, 2, 256)
	old, young := data("old", "", "", "o"), data("", "young", "", "")
	atOld := b.put(old)
	b.h.Settle()
	atYoung := b.put(young)
	check := func() {
		t.Helper()
		b.counts("undone", 2, 33, 0, 2, 3, 4, 5, 6)
		b.has(atOld, old, 2, 3)
		b.has(atYoung, young, 5)
	}
	run := func() {
		b.x.Less(atOld)
		b.x.Less(atYoung)
		if b.x.Count() != 0 {
			t.Errorf("within: %d are kept", b.x.Count())
		}
		if at := b.x.Put(young); at == atYoung {
			t.Errorf("Put again: %d, which may be gone back to", at)
		}
		b.x.Put(data("new", "n", "", ""))
		b.x.More(b.x.Put(data("new", "", "", "")))
		pack.Fail(api.ErrNone)
	}
	b.fails(api.ErrNone, run)
	check()
	b.works(func() {
		if e := b.h.Try(run); e != api.ErrNone {
			t.Errorf("Try: %d", e)
		}
		check()
	})
	check()
	b.fails(api.ErrBig, func() {
		b.works(func() { b.x.Less(atOld); b.x.Put(data("new", "n", "", "")) })
		pack.Fail(api.ErrBig)
	})
	check()
	b.less(atOld)
	b.less(atYoung)
	b.counts("let go", 0, 35, 3)
}

// K3: what Parts answers is the caller's, and what Put was handed isn't kept.
func TestApart(t *testing.T) {
	b := newBox(t, 20, 2, 256)
	s := data("a", "b", "c", "d")
	at := b.put(s)
	b.works(func() {
		l := b.x.Parts(at)
		for i := range l {
			l[i] = 99
		}
	})
	b.has(at, s, 2, 3, 4, 5)
}

// P11.1: two stores of two heaps go their own ways.
func TestTwo(t *testing.T) {
	a, b := newBox(t, 20, 2, 256), newBox(t, 20, 6, 256)
	s := data("a", "", "", "")
	if at, other := a.put(s), b.put(s); at != 3 || other != 7 {
		t.Errorf("Put: %d, %d", at, other)
	}
	a.less(3)
	b.has(7, s, 6)
}

// P11.2: a heap that begins with sector 0, by whose number nothing can be told: that stays free.
func TestSectorNought(t *testing.T) {
	b := newBox(t, 12, 0, 256)
	s, more := data("a", "", "c", ""), data("", "", "", "m")
	at := b.put(s)
	b.has(at, s, 1, 2)
	b.counts("Put", 1, 9, 0, 1, 2, 3)
	b.works(func() {
		if n := b.x.Put(more); n != 5 {
			t.Errorf("Put: %d", n)
		}
	})
	b.counts("Put", 2, 7, 0, 1, 2, 3, 4, 5)
	b.has(5, more, 4)
	b.less(at)
	b.has(b.put(s), s, 1, 2)
	one := newBox(t, 3, 0, 256)
	one.has(one.put(more), more, 1)
	one.refused(api.ErrSpace, func() { one.x.Put(s) })
}

// P11.1: behind a crash a head may be an older whole one. What is let go then is what lay there, and
// nothing else is forgotten.
func TestOlderHead(t *testing.T) {
	b := newBox(t, 30, 2, 256)
	one, two := data("one", "", "", ""), data("two", "", "", "")
	at := b.put(one)
	if e := pack.Guard(b.d.Sync); e != api.OK {
		t.Fatalf("Sync: %d", e)
	}
	b.less(at)
	if again := b.put(two); again != at {
		t.Fatalf("Put: %d", again)
	}
	other := b.put(one)
	b.d.Crash(64, 0, 64, 64)
	b.less(at)
	b.counts("Less", 1, 26, 0, other-1, other)
	b.has(other, one, other-1)
	b.has(b.put(two), two, 2)
}
