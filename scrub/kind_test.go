package scrub_test

import (
	"slices"
	"testing"

	"stereobate/catalog"
	"stereobate/extent"
	"stereobate/node"
	"stereobate/pack"
	"stereobate/sha"
)

// P23.1: a sector whose sum is right is spoilt, if it is none of what it should be.
func TestOtherKind(t *testing.T) {
	b := sample(t)
	root := b.entry(1).Root
	one := b.kid(root, 0)
	zero := b.kid(one, 0)
	head := b.kid(zero, 0)
	part, entry := b.kid(head, 0), b.catalog()[0]
	level := func(n int) string { return node.Node{Level: n}.Bytes() }
	v := catalog.Entry{ID: 1, Size: 600}
	for _, c := range []struct {
		at    int
		texts []string
	}{
		{root, []string{level(0), level(1), level(3), b.on(entry), b.on(head), noughts(64), sealed(level(2)[:50] + "x"), level(2)[:60] + "xxxx"}},
		{one, []string{level(0), level(2), b.on(entry), b.on(head), noughts(64), sealed("O" + level(1)[1:60])}},
		{zero, []string{level(1), level(2), b.on(entry), b.on(head), noughts(64), sealed(level(0)[:59] + "\x01")}},
		{head, []string{level(0), level(2), b.on(entry), b.on(part), noughts(64), sealed(extent.Head{}.Bytes()[:57] + "\x01"), sealed("F" + b.on(head)[1:60])}},
		{part, []string{level(0), b.on(head), b.on(entry), noughts(64), b.on(b.kid(head, 1))}},
		{entry, []string{level(0), level(2), b.on(head), b.on(part), noughts(64), catalog.Entry{Size: 5}.Bytes(0), catalog.Entry{ID: 1}.Bytes(0), catalog.Entry{ID: 1, Size: 2049}.Bytes(0), sealed(v.Bytes(0)[:20] + "\x01"), sealed(v.Bytes(0)[:9] + "\x02" + v.Bytes(0)[10:60])}},
	} {
		was := b.on(c.at)
		for _, s := range c.texts {
			b.lay(c.at, s)
			if l := b.holds("another kind"); !slices.Equal(l, []int{c.at}) {
				t.Errorf("%q in sector %d: %v are spoilt", s, c.at, l)
			}
		}
		b.lay(c.at, was)
	}
	b.whole("whole again")
}

// P23.1: a look is at a sector's own reading, at nothing else: neither at digests, nor at what is wanted, nor at
// whether numbers rise.
func TestNothingElse(t *testing.T) {
	b := sample(t)
	root := b.entry(1).Root
	zero := b.kid(b.kid(root, 0), 0)
	head := b.kid(zero, 0)
	part := b.kid(head, 3)
	was, s := node.Node{}, of("q", 1)
	x := extent.Head{}
	b.works(pack.Guard(func() { was, x = node.Parse(b.on(zero), 0), extent.Parse(b.on(head)) }))
	was.Sum = sha.Of("another one")
	b.lay(zero, was.Bytes())
	b.whole("another digest")
	x.Sums[3] = uint32(sum(s))
	b.lay(head, x.Bytes())
	b.lay(part, s)
	b.whole("another extent")
	x.At[1], x.Sums[2] = 0, x.Sums[2]+1
	b.lay(head, x.Bytes())
	b.is("a sector isn't looked at, the sum of another one is wrong", b.a.Store().Heap.Held()-1, x.At[2])
	x.At[1], x.At[2], x.Sums[1] = 0, 0, 77
	b.lay(head, x.Bytes())
	b.is("the sums of what lies nowhere", b.a.Store().Heap.Held()-2)
	l := b.catalog()
	b.lay(l[1], catalog.Entry{ID: 1, Size: 2, Root: 5000}.Bytes(l[2]))
	b.is("an entry that says something else", b.a.Store().Heap.Held()-2)
}

// P23.1, P1: entries in a ring, maps that reach what was seen, sectors that aren't there: it ends, and each is looked
// at once.
func TestRings(t *testing.T) {
	b := sample(t)
	l := b.catalog()
	below := b.a.Store().Heap.Held() - len(l)
	v := catalog.Entry{ID: 1, Size: 600}
	for i := range l {
		for j := range i + 1 {
			c := over(t, b.d.Clone())
			l := c.catalog()
			c.lay(l[i], v.Bytes(l[j]))
			c.is("a ring", below+i+1)
		}
	}
	n := node.Node{Level: 2}
	root := b.entry(1).Root
	kid := b.kid(root, 0)
	n.Kids = [8]int{kid, root, kid, l[0], kid, kid, root, 0}
	b.lay(root, n.Bytes())
	b.holds("kids that were seen")
	n.Kids = [8]int{60000, 0, 4096, 65535, b.d.Len(), b.d.Len() - 1, 1, 60000}
	b.lay(root, n.Bytes())
	if bad := b.holds("kids that aren't there"); !slices.Equal(bad, []int{1, b.d.Len() - 1, b.d.Len(), 4096, 60000, 65535}) {
		t.Errorf("%v are spoilt", bad)
	}
	b.lay(l[0], v.Bytes(60001))
	if bad := b.holds("a next one that isn't there"); !slices.Contains(bad, 60001) {
		t.Errorf("%v are spoilt", bad)
	}
	x := extent.Head{At: [4]int{65535, l[0], 0, 65535}}
	b.lay(b.kid(b.kid(b.entry(5).Root, 0), 0), node.Node{Kids: [8]int{b.kid(kid, 7), b.entry(2).Root}}.Bytes())
	b.holds("a map that reaches others")
	b.lay(b.entry(5).Root, node.Node{Level: 2, Kids: [8]int{300}}.Bytes())
	b.lay(300, node.Node{Level: 1, Kids: [8]int{301, 301, 302}}.Bytes())
	b.lay(301, node.Node{Kids: [8]int{303, 300, 303}}.Bytes())
	b.lay(302, node.Node{Kids: [8]int{301, 303}}.Bytes())
	b.lay(303, x.Bytes())
	if bad := b.holds("anything"); !slices.Contains(bad, 65535) || slices.Contains(bad, l[0]) || slices.Contains(bad, 300) {
		t.Errorf("%v are spoilt", bad)
	}
}
