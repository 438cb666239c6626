package track_test

import (
	"slices"
	"testing"

	"stereobate/track"
)

// P20.1: the document's example.
func TestExample(t *testing.T) {
	b := newBox(t, 200, 256)
	b.create(10)
	b.clone(1)
	b.write(2, 9, of("x", 1))
	b.is("the example", 1, 2, []int{2}, []track.Range{{At: 8, N: 2}})
}

// P20.1, P20.2: volumes with the same bytes, however they came to have them.
func TestNothing(t *testing.T) {
	b := newBox(t, 400, 256)
	b.create(40)
	b.create(40)
	b.is("a volume and itself", 1, 1, nil, nil)
	b.is("two without anything", 1, 2, nil, nil)
	data := some(noise(1), 40)
	b.write(1, 0, data)
	b.is("a volume and itself", 1, 1, nil, nil)
	for at := 36; at >= 0; at -= 4 {
		b.write(2, at, data[at*64:at*64+256])
	}
	b.is("another order", 1, 2, nil, nil)
	b.write(1, 7, of("x", 5))
	b.write(1, 7, data[7*64:12*64])
	b.is("written, and written back", 1, 2, nil, nil)
	b.write(1, 7, "")
	b.trim(1, 9, 0)
	b.is("nothing was written", 1, 2, nil, nil)
	b.clone(1)
	b.snapshot(2)
	b.is("copies", 3, 4, nil, nil)
	b.trim(1, 3, 30)
	b.write(2, 3, of("\x00", 30))
	b.is("trimmed, and written as bytes 0", 1, 2, nil, nil)
	b.trim(1, 0, 40)
	b.create(40)
	b.is("trimmed, and never written", 1, 5, nil, nil)
	b.is("what has gone", 1, 2, []int{0, 8, 9}, []track.Range{{At: 0, N: 4}, {At: 32, N: 8}})
}

// P20.2: each sector of volumes of all kinds of sizes, alone: the range ends at its extent's last sector, or the volume's.
func TestEachSector(t *testing.T) {
	for _, size := range []int{1, 2, 3, 4, 5, 6, 7, 8, 9, 33, 34} {
		b := newBox(t, 300, 256)
		b.create(size)
		b.write(1, 0, some(noise(uint64(size)), size))
		for at := range size {
			id := b.clone(1)
			b.write(id, at, of("x", 1))
			first := at / 4 * 4
			b.is("one sector", 1, id, []int{at / 4}, []track.Range{{At: first, N: min(4, size-first)}})
			b.trim(id, at, 1)
			b.is("one sector, trimmed", 1, id, []int{at / 4}, []track.Range{{At: first, N: min(4, size-first)}})
			b.do(deleted(id))
		}
	}
}

// P20.2: extents here and there in a map, of the greatest sizes.
func TestFar(t *testing.T) {
	for _, size := range []int{2045, 2046, 2047, 2048} {
		b := newBox(t, 400, 256)
		b.create(size)
		b.write(1, 900, of("y", 50))
		for _, x := range []int{0, 1, 6, 7, 8, 9, 62, 63, 64, 65, 228, 447, 448, 503, 504, 510, 511} {
			id := b.clone(1)
			b.write(id, x*4, of("x", 1))
			b.is("one extent", 1, id, []int{x}, []track.Range{{At: 4 * x, N: min(4, size-4*x)}})
			b.do(deleted(id))
		}
	}
}

// P20.2: one byte of a sector, each.
func TestEachByte(t *testing.T) {
	b := newBox(t, 300, 256)
	b.create(9)
	data := some(noise(1), 9)
	b.write(1, 0, data)
	b.create(9)
	for by := range 64 {
		bad := []byte(data)
		bad[5*64+by] ^= 1
		b.write(2, 0, string(bad))
		b.is("one byte", 1, 2, []int{1}, []track.Range{{At: 4, N: 4}})
	}
}

// P20.2: extents beside each other are one range, below one node and below two; others aren't.
func TestBeside(t *testing.T) {
	for _, x := range []struct {
		size    int
		extents []int
		ranges  []track.Range
	}{
		{40, []int{1, 2}, []track.Range{{At: 4, N: 8}}},
		{40, []int{1, 3}, []track.Range{{At: 4, N: 4}, {At: 12, N: 4}}},
		{38, []int{8, 9}, []track.Range{{At: 32, N: 6}}},
		{38, []int{7, 9}, []track.Range{{At: 28, N: 4}, {At: 36, N: 2}}},
		{38, []int{6, 7, 8, 9}, []track.Range{{At: 24, N: 14}}},
		{600, []int{7, 8}, []track.Range{{At: 28, N: 8}}},
		{600, []int{63, 64}, []track.Range{{At: 252, N: 8}}},
		{600, []int{62, 63, 65, 66}, []track.Range{{At: 248, N: 8}, {At: 260, N: 8}}},
		{2048, []int{0, 511}, []track.Range{{At: 0, N: 4}, {At: 2044, N: 4}}},
		{2045, []int{447, 448, 510, 511}, []track.Range{{At: 1788, N: 8}, {At: 2040, N: 5}}},
		{30, []int{0, 2, 4, 6}, []track.Range{{At: 0, N: 4}, {At: 8, N: 4}, {At: 16, N: 4}, {At: 24, N: 4}}},
		{30, []int{1, 3, 5, 7}, []track.Range{{At: 4, N: 4}, {At: 12, N: 4}, {At: 20, N: 4}, {At: 28, N: 2}}},
	} {
		b := newBox(t, 300, 256)
		b.create(x.size)
		b.write(1, 0, of("y", 20))
		id := b.snapshot(1)
		for _, at := range slices.Backward(x.extents) {
			b.write(1, min(4*at+3, x.size-1), of("x", 1))
		}
		b.is("extents", id, 1, x.extents, x.ranges)
	}
}

// P20.2: all extents of the greatest volumes.
func TestAll(t *testing.T) {
	for _, size := range []int{2048, 2045} {
		b := newBox(t, 1200, 256)
		b.create(size)
		b.create(size)
		var all []int
		for at := 0; at < size; at += 32 {
			n := min(32, size-at)
			b.write(1, at, of("x", n))
			b.write(2, at, of("y", n))
		}
		for x := range 512 {
			all = append(all, x)
		}
		b.is("all", 1, 2, all, []track.Range{{At: 0, N: size}})
		b.create(size)
		b.is("all, and nothing", 1, 3, all, []track.Range{{At: 0, N: size}})
		b.write(2, 1000, of("x", 4))
		b.is("all but one", 1, 2, slices.Delete(slices.Clone(all), 250, 251), []track.Range{{At: 0, N: 1000}, {At: 1004, N: size - 1004}})
	}
}

// P20.1: the same extent at another place is another one there.
func TestMoved(t *testing.T) {
	b := newBox(t, 300, 256)
	b.create(40)
	b.create(40)
	b.write(1, 4, of("x", 4))
	b.write(2, 36, of("x", 4))
	b.is("moved", 1, 2, []int{1, 9}, []track.Range{{At: 4, N: 4}, {At: 36, N: 4}})
	b.write(1, 0, of("x", 4)+of("y", 4))
	b.write(2, 0, of("y", 4)+of("x", 4))
	b.is("changed about", 1, 2, []int{0, 1, 9}, []track.Range{{At: 0, N: 8}, {At: 36, N: 4}})
}

// P20.2: sectors that went and came again are bytes 0; volumes of other sizes may come to have one.
func TestResized(t *testing.T) {
	b := newBox(t, 300, 256)
	b.create(30)
	b.write(1, 0, some(noise(1), 30))
	b.clone(1)
	b.resize(1, 13)
	b.resize(2, 13)
	b.is("both shorter", 1, 2, nil, nil)
	b.resize(1, 5)
	b.resize(1, 13)
	b.is("one shorter for a while", 1, 2, []int{1, 2, 3}, []track.Range{{At: 4, N: 9}})
	b.resize(1, 60)
	b.resize(2, 60)
	b.is("both longer", 1, 2, []int{1, 2, 3}, []track.Range{{At: 4, N: 12}})
}

// P20.1: volumes with nothing in common, without a copy between them, of which each may be read only.
func TestStrangers(t *testing.T) {
	b := newBox(t, 400, 256)
	b.create(50)
	b.create(50)
	b.write(1, 2, some(noise(1), 20))
	b.write(2, 17, some(noise(2), 20))
	b.snapshot(1)
	b.snapshot(2)
	for _, ids := range [][2]uint32{{1, 2}, {1, 3}, {1, 4}, {2, 3}, {2, 4}, {3, 4}} {
		b.holds("strangers", ids[0], ids[1])
	}
	b.is("strangers", 3, 4, []int{0, 1, 2, 3, 4, 5, 6, 7, 8, 9}, []track.Range{{At: 0, N: 40}})
}

// P20.1: what was told stays as it is, and what is done with it changes no other answer.
func TestApart(t *testing.T) {
	b := newBox(t, 300, 256)
	b.create(30)
	b.clone(1)
	b.write(1, 9, of("x", 12))
	l, _ := track.Extents(b.a, 1, 2)
	r, _ := track.Changed(b.a, 1, 2)
	for i := range l {
		l[i] = 99
	}
	r[0] = track.Range{At: 7, N: 7}
	extents, ranges := []int{2, 3, 4, 5}, []track.Range{{At: 8, N: 16}}
	b.is("behind a change of the answers", 1, 2, extents, ranges)
	l, _ = track.Extents(b.a, 1, 2)
	r, _ = track.Changed(b.a, 1, 2)
	b.trim(1, 0, 30)
	b.do(deleted(2))
	b.works(b.a.Checkpoint())
	if !slices.Equal(l, extents) || !slices.Equal(r, ranges) {
		t.Errorf("the answers have changed: %v, %v", l, r)
	}
}
