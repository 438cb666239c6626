package radix_test

import (
	"testing"

	"stereobate/api"
	"stereobate/node"
	"stereobate/pack"
	"stereobate/sha"
)

// again: maps of a heap and a store in which nothing is yet, over a copy of the disk.
func (b *box) again(bits int) *box {
	return over(b.t, b.d.Clone(), 2, bits)
}

// adopt: outside of a Try; its error.
func (b *box) adopt(root int, want api.Errno) {
	b.t.Helper()
	if e := pack.Guard(func() { b.m.Adopt(root) }); e != want {
		b.t.Errorf("Adopt(%d): %d, not %d", root, e, want)
	}
}

// P13.1, P13.2: what was put is adopted by others: the same is held, wanted by as many, and is the same maps.
func TestAdopt(t *testing.T) {
	b, root := tall(t)
	b.share(root)
	other := b.set(b.set(root, 9, data("other")), 511, data("\x01")) // an extent of both, at two places
	b.share(other)
	c := b.again(256)
	c.adopt(root, api.OK)
	c.adopt(other, api.OK)
	c.adopt(other, api.OK)
	c.adopt(0, api.OK)
	c.is("adopted", b.state())
	for at := range 512 {
		if c.get(root, at) != b.get(root, at) || c.get(other, at) != b.get(other, at) {
			t.Errorf("adopted: another extent at %d", at)
		}
	}
	c.drop(other)
	c.drop(root)
	c.has(other, map[int]string{0: data("\x01"), 1: data("\x02"), 2: data("\x03"), 8: data("\x09"), 9: data("other"), 16: data("\x11"), 64: data("\x41"), 65: data("\x42"), 72: data("\x49"), 128: data("\x81"), 511: data("\x01")})
	c.drop(other)
	c.empty("let go")
	if c.h.Late() != b.h.Held() {
		t.Errorf("%d are late: none of them is young", c.h.Late())
	}
}

// P13.1: adopted again a map is wanted by one more, its kids aren't, and nothing is read.
func TestAdoptAgain(t *testing.T) {
	b, root := tall(t)
	way := b.path(root, 64)
	c := b.again(256)
	c.adopt(root, api.OK)
	was := c.state()
	c.cut()
	for n := 2; n < 5; n++ {
		c.adopt(root, api.OK)
		c.refs("Adopt", map[int]int{root: n, way[1]: 1, way[2]: 1, way[3]: 1})
	}
	c.whole()
	for range 3 {
		c.drop(root)
	}
	c.is("Adopt and Drop", was)
	b.adopt(root, api.OK) // one that was made here
	b.refs("Adopt", map[int]int{root: 2, way[1]: 1})
}

// P13.1: a node or a head that is spoilt, or isn't what must stand there.
func TestAdoptSpoilt(t *testing.T) {
	b, root := tall(t)
	for _, at := range b.h.All() {
		c, want := b.again(256), api.ErrSum
		c.spoil(at, 33)
		if s := b.on(at)[0]; s != 'N' && s != 'E' {
			want = api.OK // extents' sectors aren't read
		}
		c.adopt(root, want)
	}
	for level := range 3 {
		way := b.path(root, 64)
		for other := range 3 {
			if other == level {
				continue
			}
			c := b.again(256)
			c.write(way[2-level], b.on(way[2-other]))
			c.adopt(root, api.ErrForm)
		}
		c := b.again(256)
		c.write(way[2-level], b.on(way[3]))
		c.adopt(root, api.ErrForm)
	}
	c := b.again(256)
	c.cut()
	c.adopt(root, api.ErrCut)
	for _, at := range []int{1, 200, 65535, -1} {
		b.again(256).adopt(at, api.ErrRange)
	}
	c = b.again(256)
	c.adopt(100, api.ErrSum) // nothing was ever written there
}

// P13.1: a kid that the heap hasn't, or that is held as something else.
func TestAdoptKids(t *testing.T) {
	b, root := tall(t)
	way := b.path(root, 0)
	laid := func(level, kid int) *box {
		c := b.again(256)
		c.write(150, node.Node{Level: level, Kids: [8]int{3: kid}, Sum: sha.Of("x")}.Bytes())
		return c
	}
	for level, kid := range map[int]int{2: way[1], 1: way[2], 0: way[3]} {
		for _, far := range []int{1, 200, 65535} {
			c := laid(level, far)
			if level == 2 {
				c.adopt(150, api.ErrRange)
			}
		}
		c := laid(level, kid)
		if level == 2 {
			c.adopt(150, api.OK)
			c.refs("Adopt", map[int]int{150: 1, kid: 1})
			c.adopt(root, api.OK)
			c.refs("Adopt", map[int]int{150: 1, root: 1, kid: 2, way[2]: 1})
		} else {
			c.adopt(150, api.ErrForm) // a root's level is 2
		}
	}
	c := laid(2, way[2])
	c.adopt(150, api.ErrForm)
	c = laid(2, way[3])
	c.adopt(150, api.ErrForm)
	c = laid(2, 151)
	c.write(151, node.Node{Level: 1, Kids: [8]int{152}}.Bytes())
	c.write(152, node.Node{Level: 0, Kids: [8]int{way[3], way[3], 0, way[3]}}.Bytes())
	c.adopt(150, api.OK)
	c.refs("Adopt", map[int]int{150: 1, 151: 1, 152: 1, way[3]: 3})
	for _, far := range []int{1, 200, 65535} {
		c = laid(2, 151)
		c.write(151, node.Node{Level: 1, Kids: [8]int{152}}.Bytes())
		c.write(152, node.Node{Level: 0, Kids: [8]int{far}}.Bytes())
		c.adopt(150, api.ErrRange)
	}
}

// P13.1: unlike extents with one address: layer 11's error.
func TestAdoptClash(t *testing.T) {
	b := newBox(t, 60, 2)
	root := 0
	for at := range 3 {
		root = b.set(root, 100*at, data(string(rune('a'+at))))
	}
	b.again(1).adopt(root, api.ErrClash)
	b.again(256).adopt(root, api.OK)
}
