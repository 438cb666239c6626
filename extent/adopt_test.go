package extent_test

import (
	"math"
	"slices"
	"testing"

	"stereobate/api"
	"stereobate/extent"
	"stereobate/heap"
	"stereobate/pack"
	"stereobate/sha"
)

// again: a heap and a store in which nothing is yet, over the disk of another one.
func (b *box) again(from, bits int) *box {
	d := b.d.Clone()
	h := heap.New(d, from)
	return &box{b.t, d, h, extent.New(h, bits)}
}

// adopt: outside of a Try; its error.
func (b *box) adopt(at int, want api.Errno) {
	b.t.Helper()
	if e := pack.Guard(func() { b.x.Adopt(at) }); e != want {
		b.t.Errorf("Adopt(%d): %d, not %d", at, e, want)
	}
}

// head: of these sectors, as they lie on the disk, with a sum of its own.
func (b *box) head(sum string, at ...int) extent.Head {
	x := extent.Head{Sum: sha.Of(sum)}
	copy(x.At[:], at)
	for i, p := range x.At {
		if p != 0 {
			x.Sums[i] = check(b.on(p))
		}
	}
	return x
}

// P11.1, P11.3: what one store put another one adopts: it has the same extents, and the same sectors are held.
func TestAdopt(t *testing.T) {
	b := newBox(t, 60, 4, 256)
	next := noise(6)
	var all []string
	var ats []int
	for set := 1; set < 16; set++ {
		var p [4]string
		for i := range 4 {
			if set>>i&1 == 1 {
				p[i] = some(next, 64)
			}
		}
		all = append(all, data(p[0], p[1], p[2], p[3]))
		ats = append(ats, b.put(all[len(all)-1]))
	}
	c := b.again(4, 256)
	for i, at := range slices.Backward(ats) {
		c.adopt(at, api.OK)
		if n := c.x.Count(); n != len(ats)-i {
			t.Errorf("Adopt: %d are kept", n)
		}
	}
	c.is("adopted", b.state())
	for i, at := range ats {
		var parts []int
		b.works(func() { parts = b.x.Parts(at) })
		c.has(at, all[i], parts...)
		if again := c.put(all[i]); again != at || c.h.Refs(at) != 2 {
			t.Errorf("Put of one that was adopted: %d, wanted by %d", again, c.h.Refs(at))
		}
	}
	for _, at := range ats {
		c.less(at)
		c.less(at)
	}
	c.counts("let go", 0, 9, 47) // none of them is young
}

// P11.1: adopted again it is wanted by one more; its sectors aren't, and it is kept once.
func TestAdoptAgain(t *testing.T) {
	b := newBox(t, 20, 2, 256)
	s := data("a", "", "c", "d")
	at := b.put(s)
	c := b.again(2, 256)
	for n := 1; n < 6; n++ {
		c.adopt(at, api.OK)
		if c.h.Refs(at) != n || c.h.Refs(2) != 1 || c.h.Refs(4) != 1 || c.x.Count() != 1 {
			t.Errorf("Adopt: %+v", c.state())
		}
	}
	for range 4 {
		c.less(at)
	}
	c.has(at, s, 2, 3, 4)
	c.less(at)
	c.counts("let go", 0, 14, 4)
	b.adopt(at, api.OK) // one that was put
	if b.h.Refs(at) != 2 || b.x.Count() != 1 {
		t.Errorf("Adopt of one that was put: %+v", b.state())
	}
}

// P11.1: heads that nobody put, of one sector, and of none.
func TestAdoptFew(t *testing.T) {
	b := newBox(t, 20, 2, 256)
	b.write(9, "part")
	b.write(10, b.head("x", 0, 9).Bytes())
	b.write(11, b.head("none").Bytes())
	b.adopt(10, api.OK)
	b.adopt(11, api.OK)
	b.counts("Adopt", 2, 15, 0, 9, 10, 11)
	b.works(func() {
		if s := b.x.Get(10); s != data("", "part", "", "") {
			t.Errorf("Get: %q", s)
		}
		if s := b.x.Get(11); s != noughts(256) {
			t.Errorf("Get: %q", s)
		}
		if b.x.Sum(10) != sha.Of("x") || b.x.Sum(11) != sha.Of("none") {
			t.Error("Sum")
		}
	})
}

// P11.1: a head that can't be read, or isn't one.
func TestAdoptHead(t *testing.T) {
	b := newBox(t, 20, 2, 256)
	at := b.put(data("a", "b", "", ""))
	for by := range 64 {
		c := b.again(2, 256)
		c.spoil(at, by)
		c.adopt(at, api.ErrSum)
	}
	c := b.again(2, 256)
	c.write(at, sealed("V"+c.on(at)[1:60]))
	c.adopt(at, api.ErrForm)
	c = b.again(2, 256)
	c.adopt(2, api.ErrSum) // a part
	c = b.again(2, 256)
	c.adopt(19, api.ErrSum) // nothing
	c = b.again(2, 256)
	c.cut()
	c.adopt(at, api.ErrCut)
	c = b.again(2, 256)
	c.spoil(2, 0)
	c.adopt(at, api.OK) // sectors aren't read
	c.refused(api.ErrSum, func() { c.x.Get(at) })
}

// P11.1: a sector of an extent that another one has, that it has twice, that is its head, or that is held otherwise.
func TestAdoptShared(t *testing.T) {
	for _, c := range []struct {
		what string
		at   []int
		want api.Errno
	}{
		{"its own", []int{6, 7, 8}, api.OK},
		{"another one's", []int{6, 2, 8}, api.ErrForm},
		{"another one's head", []int{6, 7, 8, 4}, api.ErrForm},
		{"twice", []int{6, 7, 6}, api.ErrForm},
		{"its head", []int{10}, api.ErrForm},
		{"held by somebody else", []int{0, 5}, api.ErrForm},
		{"below the heap", []int{1}, api.ErrRange},
		{"behind the end", []int{6, 20}, api.ErrRange},
		{"far behind the end", []int{6, 7, 8, 65535}, api.ErrRange},
		{"late", []int{9}, api.ErrRange},
		{"another one's, then behind the end", []int{3, 20}, api.ErrForm},
		{"behind the end, then another one's", []int{20, 3}, api.ErrRange},
	} {
		put := newBox(t, 20, 2, 256)
		put.put(data("a", "b", "", ""))
		b := put.again(2, 256)
		b.adopt(4, api.OK)
		for _, at := range []int{5, 9} {
			if e := pack.Guard(func() { b.h.Adopt(at) }); e != api.OK {
				t.Fatalf("Adopt(%d): %d", at, e)
			}
		}
		b.works(func() { b.h.Less(9) })
		b.write(10, b.head("y", c.at...).Bytes())
		if e := pack.Guard(func() { b.x.Adopt(10) }); e != c.want {
			t.Errorf("%s: %d, not %d", c.what, e, c.want)
		}
	}
}

// P11.1: another one of its address is kept, though its bytes be the same; with more bits none is.
func TestAdoptClash(t *testing.T) {
	one, two := found(5)
	b := newBox(t, 30, 2, 256)
	atOne, atTwo := b.put(one), b.put(two)
	for bits := range 8 {
		c, want := b.again(2, bits), api.OK
		if bits <= 5 {
			want = api.ErrClash
		}
		c.adopt(atOne, api.OK)
		c.adopt(atTwo, want)
		c = b.again(2, bits)
		c.adopt(atTwo, api.OK)
		c.adopt(atTwo, api.OK)
		c.adopt(atOne, want)
	}
	c := b.again(2, 256)
	x, e := parse(c.on(atOne))
	if e != api.OK {
		t.Fatalf("Parse: %d", e)
	}
	for i, p := range x.At {
		if p != 0 {
			c.write(20+i, c.on(p))
			x.At[i] = 20 + i
		}
	}
	c.write(25, x.Bytes())
	c.adopt(atOne, api.OK)
	c.adopt(25, api.ErrClash)
}

// P11.1: just the first so many bits of a sum are the address: of two that differ in one bit alone, whichever,
// the second one is refused if that bit lies behind them.
func TestAdoptBits(t *testing.T) {
	for asked, bits := range map[int]int{math.MinInt: 1, -1: 1, 0: 1, 1: 1, 2: 2, 7: 7, 8: 8, 9: 9, 100: 100, 255: 255, 256: 256, 257: 256, math.MaxInt: 256} {
		for bit := range 256 {
			b, want := newBox(t, 6, 2, asked), api.OK
			if bit >= bits {
				want = api.ErrClash
			}
			x := b.head("bits")
			b.write(2, x.Bytes())
			x.Sum[bit/8] ^= 0x80 >> (bit % 8)
			b.write(3, x.Bytes())
			b.adopt(2, api.OK)
			b.adopt(3, want)
		}
	}
}

// P11.1: one whose sectors somebody let go without the store is no other one, when it is adopted again.
func TestAdoptSame(t *testing.T) {
	b := newBox(t, 20, 2, 256)
	s := data("a", "b", "", "")
	at := b.put(s)
	b.works(func() { b.h.Less(2); b.h.Less(3); b.h.Less(at) })
	b.adopt(at, api.OK)
	b.has(at, s, 2, 3)
	b.counts("Adopt", 1, 15, 0, 2, 3, 4)
}

// K2: a sector that isn't the first time is named ahead of another one of its address.
func TestAdoptOrder(t *testing.T) {
	b := newBox(t, 30, 2, 256)
	at := b.put(data("a", "b", "", ""))
	c := b.again(2, 256)
	c.write(20, c.on(at))
	c.adopt(at, api.OK)
	c.adopt(20, api.ErrForm)
}

// P11.1: what was adopted and let go within a Try that fails is there still.
func TestAdoptUndone(t *testing.T) {
	b := newBox(t, 20, 2, 256)
	s := data("a", "b", "", "")
	at := b.put(s)
	c := b.again(2, 256)
	c.adopt(at, api.OK)
	c.fails(api.ErrNone, func() {
		c.x.Less(at)
		c.counts("within", 0, 15, 3)
		pack.Fail(api.ErrNone)
	})
	c.has(at, s, 2, 3)
	c.counts("undone", 1, 15, 0, 2, 3, 4)
}

// P11.1: one that was let go can be adopted again, as soon as it is free.
func TestAdoptLetGo(t *testing.T) {
	b := newBox(t, 20, 2, 256)
	s := data("a", "b", "", "")
	at := b.put(s)
	b.less(at)
	b.adopt(at, api.OK)
	b.has(at, s, 2, 3)
	b.less(at)
	b.h.Settle()
	b.adopt(at, api.OK)
	b.less(at)
	b.adopt(at, api.ErrRange) // late
}
