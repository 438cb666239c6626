package ship_test

import (
	"testing"

	"stereobate/api"
	"stereobate/redo"
)

// sizes: of volumes, so few that often two have one.
var sizes = []int{10, 41, 41, 300}

// change: some op, whatever it answers.
func (b *box) change(next func(int) int) {
	l := b.a.Entries()
	if len(l) == 0 {
		b.create(sizes[next(len(sizes))])
		return
	}
	x := l[next(len(l))]
	o := redo.Op{ID: x.ID, At: next(x.Size)}
	most := min(x.Size-o.At, 20)
	switch n := next(20); {
	case n == 0:
		o.Kind, o.N = redo.Create, sizes[next(len(sizes))]
	case n < 3:
		o.Kind = redo.Snapshot
	case n < 6:
		o.Kind = redo.Clone
	case n < 8:
		o.Kind, o.N = redo.Resize, sizes[next(len(sizes))]
	case n < 10:
		o.Kind, o.N = redo.Trim, next(most+1)
	case n == 10 || len(l) > 6:
		o.Kind = redo.Delete
	case n < 15:
		o.Kind, o.Data = redo.Write, some(next, 1+next(most))
	default: // bytes that others have at that place, too
		o.Kind, o.Data = redo.Write, of(string([]byte{byte('a' + next(2))}), 1+next(most))
	}
	if _, e := b.a.Do(o); e != api.OK && e != api.ErrOnly && e != api.ErrSpace && e != api.ErrClash && e != api.ErrFull {
		b.t.Fatalf("Do of %d: %d", o.Kind, e)
	}
}

// P22.1, P22.2, P6: volumes behind any ops: what is exported of each two is what their bytes ask for, and makes, in
// another archive, the one of what has the other one's bytes, and nothing of what has others.
func TestShipped(t *testing.T) {
	n, refused := 0, 0
	for seed := range uint64(16) {
		next := noise(seed)
		b := newBox(t, []int{200, 600, 1500}[seed%3], []int{256, 256, 10, 256}[seed%4])
		c := newBox(t, 2500, 256)
		for range 40 {
			b.change(next)
			l := b.a.Entries()
			if len(l) == 0 {
				continue
			}
			x, y := l[next(len(l))], l[next(len(l))]
			if x.Size != y.Size {
				b.refused("sizes", x.ID, y.ID, api.ErrSize)
				continue
			}
			if b.is("two volumes", x.ID, y.ID) > 0 {
				n++
			}
			b.is("of nothing", 0, y.ID)
			refused += b.shipped(c, x.ID, y.ID, next)
			if next(6) == 0 {
				b = b.again()
			}
		}
	}
	if n < 80 || refused < 80 {
		t.Errorf("%d pairs are others alone, %d are refused", n, refused)
	}
}

// shipped: two volumes to another archive, and back; how often it was refused there.
func (b *box) shipped(c *box, x, y uint32, next func(int) int) int {
	b.t.Helper()
	was, now := b.read(x), b.read(y)
	id := c.create(len(was) / 64)
	c.imports("of nothing", id, b.exported(0, x), was)
	c.imports("the difference", id, b.exported(x, y), now)
	n := 0
	for _, text := range []string{b.exported(x, y), b.exported(0, x)} {
		if was != now && now != noughts(len(now)) {
			c.keeps("another digest", id, text, api.ErrBase)
			n++
		}
	}
	c.imports("back", id, b.exported(y, x), was)
	if next(2) == 0 {
		c.write(id, next(len(was)/64), some(next, 1))
		c.keeps("a sector was written", id, b.exported(x, y), api.ErrBase)
	}
	c.delete(id)
	return n
}

// P22.2: within one archive, of a clone, and on and on, as whoever keeps a copy would do it.
func TestCopies(t *testing.T) {
	for _, bits := range []int{256, 9} {
		next := noise(uint64(bits))
		b, c := newBox(t, 900, bits), newBox(t, 900, 256)
		b.create(100)
		c.create(100)
		last := b.snapshot(1)
		for range 60 {
			at := next(100)
			b.a.Do(redo.Op{Kind: redo.Write, ID: 1, At: at, Data: some(next, 1+next(min(9, 100-at)))}) // or a clash
			if at := next(100); next(3) == 0 {
				b.trim(1, at, next(100-at))
			}
			now := b.snapshot(1)
			text := b.exported(last, now)
			c.imports("a copy that is kept", 1, text, b.read(1))
			id := b.clone(last)
			b.imports("in one archive", id, text, b.read(1))
			b.delete(id)
			b.delete(last)
			last = now
			if next(5) == 0 {
				b.works(b.a.Flush())
				b, c = b.again(), c.again()
				b.has("behind a crash", 1, c.read(1))
			}
		}
	}
}

// bench is volumes of few sizes, with few extents, so that a stream often is made for what a volume has.
type bench struct {
	*box
	next  func(int) int
	texts map[uint32]string // what each volume is to have
	kinds []string          // of extents
}

func newBench(t *testing.T, next func(int) int) bench {
	b := bench{newBox(t, 900, 256), next, map[uint32]string{}, nil}
	for range 4 {
		b.kinds = append(b.kinds, some(next, 4))
	}
	for _, size := range []int{7, 8, 8, 9} {
		b.texts[b.create(size)] = noughts(size * 64)
	}
	return b
}

// items: any ones of some bytes, and what these make of them.
func (b bench) items(s string) ([]item, string) {
	var l []item
	for at := 0; at*256 < len(s); at++ {
		if b.next(2) == 0 {
			continue
		}
		own := min(len(s)-at*256, 256)
		x := item{at, noughts(256)}
		if b.next(3) > 0 {
			x.data = b.kinds[b.next(4)][:own] + noughts(256-own)
		}
		l = append(l, x)
		s = patched(s, at*4, x.data[:own])
	}
	return l, s
}

// wants: what a stream is to answer that is made of some bytes, and says that these come out, of a volume.
func (b bench) wants(id uint32, base, now, target string) api.Errno {
	has, ok := b.texts[id]
	switch {
	case !ok:
		return api.ErrNone
	case len(has) != len(base):
		return api.ErrSize
	case has != base:
		return api.ErrBase
	case now != target:
		return api.ErrSum
	}
	return api.OK
}

// P22.1, P7: streams of few things, right and wrong: they do what they say, or are refused, and nothing has changed.
func TestImportModel(t *testing.T) {
	b := newBench(t, noise(11))
	seen := map[api.Errno]int{}
	for range 1500 {
		id := uint32(1 + b.next(5))
		base, ok := b.texts[id]
		if !ok || b.next(4) == 0 {
			base = b.texts[uint32(1+b.next(4))]
		}
		l, now := b.items(base)
		target := now
		if b.next(4) == 0 {
			target = patched(now, 0, b.kinds[b.next(4)][:64])
		}
		text := sealed(body(base, target, l))
		if want := b.wants(id, base, now, target); want != api.OK {
			b.keeps("refused", id, text, want)
			seen[want]++
			continue
		}
		b.imports("it does what it says", id, text, now)
		b.texts[id] = now
		seen[api.OK]++
	}
	for _, e := range []api.Errno{api.OK, api.ErrNone, api.ErrSize, api.ErrBase, api.ErrSum} {
		if seen[e] < 40 {
			t.Errorf("Import: %v", seen)
		}
	}
}
