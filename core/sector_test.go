package core_test

import (
	"testing"

	"stereobate/api"
	"stereobate/sha"
)

// sizes of volumes: at the edges of extents and nodes.
var sizes = []int{1, 2, 3, 4, 5, 7, 8, 9, 13}

// P16.1: Read of each range of a volume, and what is none.
func TestRead(t *testing.T) {
	b := newBox(t, 100, 2, 256)
	id := b.made(b.c.Create(10))
	text := b.fill(id, 0, 10, 1)
	for _, r := range ranges() {
		b.refused("Read", r.want, func() api.Errno {
			s, e := b.c.Read(id, r.at, r.n)
			if e != api.OK && s != "" || e == api.OK && s != text[r.at*64:(r.at+r.n)*64] {
				t.Errorf("Read(%d, %d): %s", r.at, r.n, short(s))
			}
			return e
		})
	}
	for at := range 11 {
		for n := range 11 - at {
			if s, e := b.c.Read(id, at, n); e != api.OK || s != text[at*64:(at+n)*64] {
				t.Errorf("Read(%d, %d): %s, %d", at, n, short(s), e)
			}
		}
	}
}

// P16.1: Write of each range, over bytes 0 and over others, into volumes of each size.
func TestWrite(t *testing.T) {
	for _, size := range sizes {
		for _, full := range []bool{false, true} {
			for at := range size + 1 {
				for n := range size + 1 - at {
					b := newBox(t, 100, 2, 256)
					id := b.made(b.c.Create(size))
					text := noughts(64 * size)
					if full {
						text = b.fill(id, 0, size, 1)
					}
					text = with(text, 64*at, b.fill(id, at, n, 2))
					b.has("Write", id, text)
					if x := b.info(id); x.Size != size || x.Parent != 0 || x.Only || x.Born != 1 {
						t.Errorf("Write: %+v", x)
					}
					if b.c.Next() != id+1 {
						t.Errorf("Next: %d", b.c.Next())
					}
					b.reached()
				}
			}
		}
	}
}

// P16.1: what is no range, or no whole sectors; of both the latter is told.
func TestWriteRefused(t *testing.T) {
	b := newBox(t, 100, 2, 256)
	id := b.made(b.c.Create(10))
	text := b.fill(id, 0, 10, 1)
	for _, r := range ranges() {
		if r.want == api.OK || r.n < 0 || r.n > 20 {
			continue
		}
		b.refused("Write", api.ErrRange, func() api.Errno { return b.c.Write(id, r.at, noughts(64*r.n)) })
	}
	for n := 1; n < 200; n++ {
		if n%64 == 0 {
			continue
		}
		for _, at := range []int{0, 9, 10, 11, -1, most, least} {
			b.refused("Write", api.ErrArg, func() api.Errno { return b.c.Write(id, at, noughts(n)) })
		}
	}
	b.has("refused", id, text)
}

// P16.1: a sector anywhere, at each edge of a node, up to the last one of the greatest volume, and all of it.
func TestWriteFar(t *testing.T) {
	b := newBox(t, 4096, 2, 256)
	id := b.made(b.c.Create(2048))
	text := noughts(2048 * 64)
	for _, at := range []int{0, 3, 4, 31, 32, 127, 128, 255, 256, 1023, 1024, 1792, 2015, 2016, 2043, 2044, 2047} {
		text = with(text, at*64, b.fill(id, at, 1, uint64(at)))
		if s, _ := b.c.Read(id, at, 1); s != text[at*64:at*64+64] {
			t.Errorf("Write of the sector %d: %s", at, short(s))
		}
	}
	b.has("Write of some", id, text)
	for _, r := range [][2]int{{250, 12}, {1, 300}, {1700, 348}, {1000, 60}} {
		text = with(text, r[0]*64, b.fill(id, r[0], r[1], 99))
		b.has("Write of many", id, text)
	}
	b.refused("Write", api.ErrRange, func() api.Errno { return b.c.Write(id, 2048, sector("x")) })
	b.reached()
	all := ""
	for range 2048 / 32 {
		all += some(noise(7), 32*64) // what lies there once
	}
	b.works(b.c.Write(id, 0, all))
	b.has("Write of all", id, all)
	b.reached()
	if n := b.c.Maps.Extents.Count(); n != 8 {
		t.Errorf("%d extents are kept", n)
	}
	if sum, e := b.c.Sum(id); e != api.OK || sum != digest(all, 2, 0) {
		t.Errorf("Sum: %s, %d", sum.Hex(), e)
	}
}

// P16.1: the same extent, wherever it is written, lies there once; one that is all bytes 0 doesn't lie there.
func TestOnce(t *testing.T) {
	b := newBox(t, 400, 2, 256)
	same := some(noise(1), 256)
	for id := uint32(1); id <= 10; id++ {
		b.made(b.c.Create(20))
		b.works(b.c.Write(id, 8, same[:128]))
		b.works(b.c.Write(id, 10, same[128:]))
		if n := b.c.Maps.Extents.Count(); n != 1 {
			t.Errorf("%d extents are kept", n)
		}
	}
	b.reached()
	for id := uint32(1); id <= 10; id++ {
		b.works(b.c.Write(id, 8, noughts(256)))
		if b.info(id).Root != 0 {
			t.Errorf("%+v has bytes 0 alone", b.info(id))
		}
	}
	if b.h.Held() != 0 || b.c.Maps.Extents.Count() != 0 {
		t.Errorf("%d are held", b.h.Held())
	}
}

// P16.1: what is written as it is there already takes nothing, and needs no room.
func TestWriteSame(t *testing.T) {
	b := newBox(t, 100, 2, 256)
	id := b.made(b.c.Create(10))
	text := b.fill(id, 0, 7, 1)
	b.leave(0)
	was := b.state()
	b.works(b.c.Write(id, 0, text))
	b.works(b.c.Write(id, 2, text[2*64:3*64]))
	b.works(b.c.Write(id, 7, noughts(3*64)))
	b.works(b.c.Write(id, 8, noughts(64)))
	b.works(b.c.Trim(id, 7, 3))
	b.works(b.c.Write(id, 4, ""))
	b.works(b.c.Resize(id, 2048))
	b.works(b.c.Resize(id, 10))
	b.is("the same again", was)
}

// P16.1: Trim of each range of volumes of each size: these are bytes 0, and all others stay.
func TestTrim(t *testing.T) {
	for _, size := range sizes {
		for at := range size + 1 {
			for n := range size + 1 - at {
				b := newBox(t, 100, 2, 256)
				id := b.made(b.c.Create(size))
				text := with(b.fill(id, 0, size, 1), 64*at, noughts(64*n))
				b.works(b.c.Trim(id, at, n))
				b.has("Trim", id, text)
				if x := b.info(id); x.Size != size || (x.Root == 0) != (n == size) {
					t.Errorf("Trim: %+v", x)
				}
				b.reached()
			}
		}
	}
}

// P16.1: what is no range of it.
func TestTrimRefused(t *testing.T) {
	b := newBox(t, 100, 2, 256)
	id := b.made(b.c.Create(10))
	text := b.fill(id, 0, 10, 1)
	for _, r := range ranges() {
		if r.want != api.OK {
			b.refused("Trim", api.ErrRange, func() api.Errno { return b.c.Trim(id, r.at, r.n) })
		}
	}
	b.has("refused", id, text)
}

// P16.1: Trim across nodes of each level, of the greatest volume.
func TestTrimFar(t *testing.T) {
	b := newBox(t, 4096, 2, 256)
	id := b.made(b.c.Create(2048))
	text := ""
	for range 2048 / 32 {
		text += some(noise(8), 32*64)
	}
	b.works(b.c.Write(id, 0, text))
	for _, r := range [][2]int{{30, 3}, {126, 5}, {255, 258}, {700, 1}, {1500, 500}, {2047, 1}, {2001, 46}, {0, 700}} {
		text = with(text, r[0]*64, noughts(r[1]*64))
		b.works(b.c.Trim(id, r[0], r[1]))
		b.has("Trim", id, text)
	}
	b.reached()
	b.works(b.c.Trim(id, 0, 2048))
	if b.info(id).Root != 0 || b.h.Held() != 0 {
		t.Errorf("Trim of all: %d are held", b.h.Held())
	}
}

// P16.1: Resize from each size to each: what stays, stays; what goes is gone when it comes again.
func TestResize(t *testing.T) {
	for _, from := range sizes {
		for _, to := range sizes {
			b := newBox(t, 100, 2, 256)
			id := b.made(b.c.Create(from))
			text := b.fill(id, 0, from, 1)
			b.works(b.c.Resize(id, to))
			if x := b.info(id); x.Size != to || x.Born != 1 || x.Parent != 0 || x.Only {
				t.Errorf("Resize: %+v", x)
			}
			now := (text + noughts(64*13))[:64*to]
			b.has("Resize", id, now)
			b.reached()
			b.works(b.c.Resize(id, 20))
			if to < from {
				now = text[:64*to]
			} else {
				now = text
			}
			b.has("Resize, and more", id, now+noughts(64*20-len(now)))
			b.refused("Read", api.ErrRange, func() api.Errno { _, e := b.c.Read(id, 20, 1); return e })
			b.refused("Write", api.ErrRange, func() api.Errno { return b.c.Write(id, 20, sector("x")) })
			if sum, e := b.c.Sum(id); e != api.OK || sum != digest(now, 2, 0) {
				t.Errorf("Sum: %s, %d", sum.Hex(), e)
			}
		}
	}
}

// P16.1: sizes that may not be, and those that just may.
func TestResizeRefused(t *testing.T) {
	b := newBox(t, 100, 2, 256)
	id := b.made(b.c.Create(10))
	text := b.fill(id, 0, 10, 1)
	for _, size := range []int{least, -1, 0, 2049, 2050, 1 << 32, 1<<32 + 5, most} {
		b.refused("Resize", api.ErrArg, func() api.Errno { return b.c.Resize(id, size) })
	}
	b.works(b.c.Resize(id, 2048))
	b.has("Resize to most", id, text+noughts(2038*64))
	b.works(b.c.Resize(id, 1))
	b.has("Resize to least", id, text[:64])
}

// P16.1: copies keep their sizes, whatever the other one's is.
func TestResizeApart(t *testing.T) {
	b := newBox(t, 100, 2, 256)
	id := b.made(b.c.Create(10))
	text := b.fill(id, 0, 10, 1)
	snap, clone := b.made(b.c.Snapshot(id)), b.made(b.c.Clone(id))
	b.works(b.c.Resize(id, 3))
	b.works(b.c.Resize(clone, 12))
	b.has("the first one", id, text[:3*64])
	b.has("the snapshot", snap, text)
	b.has("the clone", clone, text+noughts(128))
	if x := b.info(b.made(b.c.Snapshot(clone))); x.Size != 12 || x.Parent != clone {
		t.Errorf("a copy of the clone: %+v", x)
	}
}

// P16.1: a volume's digest, of what it has alone, and not of its size.
func TestSum(t *testing.T) {
	b := newBox(t, 700, 2, 256)
	for i, size := range []int{1, 4, 32, 33, 300, 2048} {
		id := b.made(b.c.Create(size))
		if sum, e := b.c.Sum(id); e != api.OK || sum != (sha.Sum{}) {
			t.Errorf("Sum of bytes 0: %s, %d", sum.Hex(), e)
		}
		text := noughts(64 * size)
		for _, at := range []int{0, size / 2, size - 1} {
			text = with(text, 64*at, b.fill(id, at, 1, uint64(i+at)))
			if sum, e := b.c.Sum(id); e != api.OK || sum != digest(text, 2, 0) {
				t.Errorf("Sum: %s, %d", sum.Hex(), e)
			}
		}
	}
	b = newBox(t, 700, 2, 256)
	one, two := b.made(b.c.Create(9)), b.made(b.c.Create(2048))
	b.fill(one, 0, 9, 5)
	b.fill(two, 0, 20, 6)
	b.fill(two, 0, 9, 5)
	x, _ := b.c.Sum(one)
	if y, _ := b.c.Sum(two); x == y {
		t.Error("Sum of others is the same")
	}
	b.works(b.c.Trim(two, 9, 11))
	if y, _ := b.c.Sum(two); x != y {
		t.Error("Sum of the same is another one")
	}
}

// P16.1: what is written whole isn't read: it may be spoilt. What is left of an extent must be whole.
func TestSpoilt(t *testing.T) {
	for _, c := range []struct {
		size, at, n int
		want        api.Errno
	}{
		{9, 0, 4, api.OK}, {9, 0, 8, api.OK}, {9, 0, 9, api.OK}, {3, 0, 3, api.OK}, {1, 0, 1, api.OK}, {4, 0, 4, api.OK},
		{9, 0, 5, api.OK}, {2048, 0, 4, api.OK}, {9, 4, 4, api.OK}, {9, 8, 1, api.OK},
		{9, 0, 3, api.ErrSum}, {9, 1, 3, api.ErrSum}, {9, 1, 8, api.ErrSum}, {3, 0, 2, api.ErrSum}, {3, 1, 2, api.ErrSum}, {4, 1, 2, api.ErrSum}, {9, 3, 1, api.ErrSum},
	} {
		lay := func() (*box, uint32, string) {
			b := newBox(t, 100, 2, 256)
			id := b.made(b.c.Create(c.size))
			text := with(noughts(64*c.size), 0, b.fill(id, 0, min(c.size, 9), 1))
			b.spoil(2) // the first extent's first sector
			return b, id, text
		}
		b, id, text := lay()
		b.refused("Read", api.ErrSum, func() api.Errno {
			s, e := b.c.Read(id, 0, c.size)
			if s != "" {
				t.Errorf("Read: %s", short(s))
			}
			return e
		})
		come := some(noise(2), 64*c.n)
		if c.want != api.OK {
			b.refused("Write", c.want, func() api.Errno { return b.c.Write(id, c.at, come) })
			b.refused("Trim", c.want, func() api.Errno { return b.c.Trim(id, c.at, c.n) })
			b.spoil(2)
			b.has("refused", id, text)
			continue
		}
		b.works(b.c.Write(id, c.at, come))
		if c.at > 0 {
			b.spoil(2)
		}
		b.has("Write", id, with(text, 64*c.at, come))
		b, id, text = lay()
		b.works(b.c.Trim(id, c.at, c.n))
		if c.at > 0 {
			b.spoil(2)
		}
		b.has("Trim", id, with(text, 64*c.at, noughts(64*c.n)))
	}
}

// P16.1: any sector that is spoilt, in each call: those that read it tell so, and change nothing.
func TestSpoiltMap(t *testing.T) {
	lay := func() (*box, string) {
		b := newBox(t, 100, 2, 256)
		b.made(b.c.Create(10))
		return b, b.fill(1, 0, 10, 1)
	}
	first, text := lay()
	for _, at := range first.h.All() {
		kind := first.on(at)[0] // of a node, or head, or what is neither
		root := at == first.info(1).Root
		for i, call := range []struct {
			run   func(b *box) api.Errno
			reads bool
		}{
			{func(b *box) api.Errno { _, e := b.c.Read(1, 0, 10); return e }, true},
			{func(b *box) api.Errno { return b.c.Trim(1, 1, 8) }, root},
			{func(b *box) api.Errno { return b.c.Resize(1, 1) }, root},
			{func(b *box) api.Errno { return b.c.Write(1, 0, some(noise(2), 10*64)) }, kind == 'N' || kind == 'E'},
			{func(b *box) api.Errno { return b.c.Delete(1) }, kind == 'N' || kind == 'E'},
			{func(b *box) api.Errno { _, e := b.c.Sum(1); return e }, root},
			{func(b *box) api.Errno { _, e := b.c.Snapshot(1); return e }, false},
			{func(b *box) api.Errno { _, e := b.c.Clone(1); return e }, false},
		} {
			b, _ := lay()
			b.spoil(at)
			was := b.state()
			e := call.run(b)
			if e != api.ErrSum && e != api.OK || call.reads && e == api.OK {
				t.Errorf("the sector %d is spoilt: call %d: %d", at, i, e)
			}
			if e == api.ErrSum {
				b.is("spoilt", was)
				b.spoil(at)
				b.has("whole again", 1, text)
			}
		}
	}
}
