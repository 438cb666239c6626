package core_test

import (
	"slices"
	"strings"
	"testing"

	"stereobate/api"
	"stereobate/sha"
)

// dice: extents by noise, of addresses of so few bits that each comes soon.
type dice struct {
	next func(int) int
	bits int
}

// throw: such an extent that it, and what a change makes of it, have these addresses (below 0: any).
func (d dice) throw(at int, change func(s string) string, to int) (string, string) {
	for {
		s := some(d.next, 256)
		c := change(s)
		if (at < 0 || d.address(s) == at) && (to < 0 || d.address(c) == to) {
			return s, c
		}
	}
}

// one: an extent with that address.
func (d dice) one(at int) string {
	s, _ := d.throw(at, func(s string) string { return s }, -1)
	return s
}

func (d dice) address(s string) int {
	return int(sha.Of(s)[0]) >> (8 - d.bits)
}

// P16.1: the document's ninth example of the whole: a third extent that is unlike both others is refused.
func TestClash(t *testing.T) {
	d := dice{noise(1), 1}
	b := newBox(t, 200, 2, 1)
	id := b.made(b.c.Create(20))
	b.works(b.c.Write(id, 0, d.one(0)))
	b.works(b.c.Write(id, 4, d.one(1)))
	text := b.text(id)
	for range 20 {
		b.refused("Write", api.ErrClash, func() api.Errno { return b.c.Write(id, 8, d.one(d.next(2))) })
		b.refused("Write over its own", api.ErrClash, func() api.Errno { return b.c.Write(id, 0, d.one(0)) })
	}
	b.works(b.c.Write(id, 8, text[:256]))
	b.works(b.c.Write(id, 12, noughts(256)))
	b.works(b.c.Trim(id, 0, 4))
	b.refused("one is there yet", api.ErrClash, func() api.Errno { return b.c.Write(id, 0, d.one(0)) })
	b.works(b.c.Trim(id, 8, 4))
	b.works(b.c.Write(id, 0, d.one(0)))
	b.reached()
}

// P16.1, P16.2: what another volume has stands in the way as long as it is there.
func TestClashOthers(t *testing.T) {
	d := dice{noise(2), 1}
	b := newBox(t, 200, 2, 1)
	one, two := b.made(b.c.Create(4)), b.made(b.c.Create(4))
	b.works(b.c.Write(one, 0, d.one(1)))
	snap := b.made(b.c.Snapshot(one))
	b.works(b.c.Trim(one, 0, 4))
	b.refused("Write", api.ErrClash, func() api.Errno { return b.c.Write(two, 0, d.one(1)) })
	b.works(b.c.Delete(snap))
	b.works(b.c.Write(two, 0, d.one(1)))
	b.refused("Write", api.ErrClash, func() api.Errno { return b.c.Write(one, 0, d.one(1)) })
}

// P16.1: extent by extent: one that is in the way of those behind it changes nothing at all; what one ahead
// takes the place of is in nobody's way behind it.
func TestClashSteps(t *testing.T) {
	d := dice{noise(3), 2}
	for at := range 5 {
		b := newBox(t, 300, 2, 2)
		id := b.made(b.c.Create(24))
		b.works(b.c.Write(id, 8, d.one(1)))
		b.works(b.c.Write(id, 20, d.one(3)))
		text, l := b.text(id), slices.Repeat([]string{d.one(0)}, 5)
		l[at] = d.one(3)
		b.refused("Write", api.ErrClash, func() api.Errno { return b.c.Write(id, 0, strings.Join(l, "")) })
		b.has("refused", id, text)
		b.reached()
	}
	b := newBox(t, 300, 2, 2)
	id := b.made(b.c.Create(8))
	b.works(b.c.Write(id, 0, d.one(1)+d.one(2)))
	b.works(b.c.Write(id, 0, d.one(0)+d.one(1)))
	b.refused("Write", api.ErrClash, func() api.Errno { return b.c.Write(id, 0, d.one(1)+d.one(2)) })
	b.works(b.c.Write(id, 0, noughts(256)+d.one(0)))
}

// P16.1: Trim goes on from the sectors ahead, over whole extents, to those behind; each stands in the way of
// what comes ahead of its own end, and of nothing behind.
func TestClashTrim(t *testing.T) {
	d := dice{noise(4), 2}
	tail := func(s string) string { return s[:3*64] + noughts(64) }
	front := func(s string) string { return noughts(64) + s[64:] }
	for _, c := range []struct {
		ahead, whole, behind int // their addresses
		first, last          int // of what is left of the first one and the last one
		want                 api.Errno
	}{
		{0, 1, 2, 3, 3, api.ErrClash}, // of each other
		{0, 1, 2, 3, 0, api.OK},
		{0, 1, 2, 3, 1, api.OK},
		{0, 1, 2, 3, 2, api.ErrClash}, // of itself as it was
		{0, 1, 2, 0, 3, api.ErrClash},
		{0, 1, 2, 1, 3, api.ErrClash},
		{0, 1, 2, 2, 3, api.ErrClash},
		{0, 1, 3, 2, 1, api.OK},
	} {
		one, _ := d.throw(c.ahead, tail, c.first)
		two := d.one(c.whole)
		three, _ := d.throw(c.behind, front, c.last)
		b := newBox(t, 200, 2, 2)
		id := b.made(b.c.Create(12))
		b.works(b.c.Write(id, 0, one+two+three))
		was := one + two + three
		if c.want != api.OK {
			b.refused("Trim", c.want, func() api.Errno { return b.c.Trim(id, 3, 6) })
			b.has("refused", id, was)
			continue
		}
		b.works(b.c.Trim(id, 3, 6))
		b.has("Trim", id, tail(one)+noughts(256)+front(three))
	}
}

// P16.1: Resize trims, and so may be refused likewise.
func TestClashResize(t *testing.T) {
	d := dice{noise(5), 1}
	cut := func(s string) string { return s[:64] + noughts(192) }
	for _, same := range []bool{true, false} {
		to := 1
		if same {
			to = 0
		}
		s, _ := d.throw(0, cut, to)
		b := newBox(t, 200, 2, 1)
		id := b.made(b.c.Create(10))
		b.works(b.c.Write(id, 4, s))
		if same {
			b.refused("Resize", api.ErrClash, func() api.Errno { return b.c.Resize(id, 5) })
			b.has("refused", id, noughts(256)+s+noughts(128))
			b.works(b.c.Resize(id, 8))
			continue
		}
		b.works(b.c.Resize(id, 5))
		b.has("Resize", id, noughts(256)+s[:64])
	}
}

// P16.2: no call changes what another volume has than the one that it names.
func TestApart(t *testing.T) {
	named := map[string]uint32{"Delete": 1, "Resize": 1, "Resize to more": 3, "Write": 3, "Write of a sector": 1, "Trim": 1, "Trim of all": 3, "Trim of one": 3}
	for _, c := range calls() {
		b := three(t)
		was, texts := b.state(), b.texts()
		b.works(c.run(b))
		for _, x := range was.entries {
			if x.ID == named[c.what] {
				continue
			}
			if b.info(x.ID) != x {
				t.Errorf("%s: %+v, not %+v", c.what, b.info(x.ID), x)
			}
			b.has(c.what, x.ID, texts[x.ID])
		}
		b.reached()
	}
}
