package block_test

import (
	"slices"
	"testing"

	"stereobate/api"
	"stereobate/block"
	"stereobate/disk"
	"stereobate/redo"
	"stereobate/store"
)

// tears: so many loose sectors, each of them torn in its turn, while the others are lost, or kept.
func tears(loose int) [][]int {
	l := [][]int{nil, slices.Repeat([]int{64}, loose)}
	step := 1
	if loose > 2 {
		step = 21
	}
	for which := range loose {
		for _, others := range []int{0, 64} {
			for at := 0; at <= 64; at += step {
				cuts := slices.Repeat([]int{others}, loose)
				cuts[which] = at
				l = append(l, cuts)
			}
		}
	}
	return l
}

// step is a call that changes something, and whether all is sure behind it.
type step struct {
	run  func(a *block.Archive) api.Errno
	sure bool
}

func op(o redo.Op) step {
	return step{func(a *block.Archive) api.Errno { _, e := a.Do(o); return e }, false}
}

func flush() step {
	return step{(*block.Archive).Flush, true}
}

// life: calls by which each kind of record is there, a journal is full, and a heap is; some are refused.
func life() []step {
	n := func(seed uint64, sectors int) string { return some(noise(seed), 64*sectors) }
	return []step{
		op(redo.Op{Kind: redo.Create, N: 20}),
		op(written(1, 3, n(1, 3))),
		flush(),
		op(written(1, 6, n(2, 1))),
		op(redo.Op{Kind: redo.Snapshot, ID: 1}),
		op(redo.Op{Kind: redo.Snapshot, ID: 9}),
		op(written(1, 4, n(3, 2))), // a checkpoint instead
		op(redo.Op{Kind: redo.Clone, ID: 2}),
		op(redo.Op{Kind: redo.Trim, ID: 3, At: 5, N: 9}),
		flush(),
		flush(),
		op(redo.Op{Kind: redo.Delete, ID: 2}),
		op(redo.Op{Kind: redo.Resize, ID: 1, N: 5}),
		op(written(1, 0, n(1, 4))),
		op(redo.Op{Kind: redo.Resize, ID: 1, N: 9}),
		{(*block.Archive).Checkpoint, true},
		op(written(3, 8, n(4, 4))),
		op(redo.Op{Kind: redo.Trim, ID: 3, At: 8, N: 4}),
		flush(),
		op(written(3, 0, n(5, 8))), // more than the journal has room for
		op(redo.Op{Kind: redo.Trim, ID: 3, N: 20}),
		op(written(1, 0, n(6, 8))),
		op(redo.Op{Kind: redo.Create, N: 3}),
		{func(a *block.Archive) api.Errno {
			return a.Change(func(t *store.Store) { t.Write(4, 0, n(7, 3)); t.Snapshot(4) })
		}, true},
		op(redo.Op{Kind: redo.Delete, ID: 1}),
		op(redo.Op{Kind: redo.Delete, ID: 4}),
	}
}

// lived is what was done of a life, until it ended or the power was cut.
type lived struct {
	*box
	views []view // behind each call that was done, from the last one on behind which all was sure
}

// live: calls one behind the other, with the power cut at so many calls of the disk. What the volumes are behind
// each is known, or, if it isn't, is asked.
func live(t *testing.T, d *disk.Disk, calls int, known []view) (lived, []view, bool) {
	t.Helper()
	l := lived{box: over(t, d)}
	see := func(i int) view {
		if i >= len(known) {
			known = append(known, l.view())
		}
		return known[i]
	}
	l.views = []view{see(0)}
	d.Arm(calls)
	for i, s := range life() {
		e := s.run(l.a)
		if e == api.ErrCut {
			l.views = append(l.views, known[i+1]) // perhaps
			return l, known, false
		}
		if v := see(i + 1); s.sure {
			l.views = []view{v}
		} else {
			l.views = append(l.views, v)
		}
	}
	return l, known, true
}

// P19.2: wherever the power is cut within any call, and whatever is torn: the volumes are as behind some first
// ones of the ops, all at least that were sure; one that was cut may be the last one.
func TestCut(t *testing.T) {
	d := formatted(t, 70, 10, 256)
	l, known, _ := live(t, d.Clone(), 1<<30, nil)
	if e := l.epoch(); e < 6 {
		t.Errorf("%d checkpoints alone", e)
	}
	for n := 0; ; n++ {
		l, _, end := live(t, d.Clone(), n, known)
		if end {
			if n < 100 {
				t.Errorf("%d calls of the disk alone", n)
			}
			return
		}
		for _, cuts := range tears(len(l.d.Loose())) {
			l.again(cuts...).one("cut", l.views)
		}
	}
}

// P19.2: likewise, without a cut within a call: what wasn't flushed yet is lost, or there.
func TestCrashBetween(t *testing.T) {
	d := formatted(t, 70, 10, 256)
	b := over(t, d)
	views, lost := []view{b.view()}, 0
	for _, s := range life() {
		s.run(b.a)
		if views = append(views, b.view()); s.sure {
			views = views[len(views)-1:]
		}
		for _, cuts := range tears(len(d.Loose())) {
			if b.again(cuts...).one("a crash", views) < len(views)-1 {
				lost++
			}
		}
		b.again(whole(d)...).is("nothing is lost", b.view())
	}
	if lost == 0 {
		t.Error("nothing was ever lost")
	}
}

// P19.2: wherever the power is cut within Mount, and within the next one: all is there that was sure.
func TestMountCut(t *testing.T) {
	d := formatted(t, 70, 16, 256)
	b := over(t, d)
	b.create(30)
	b.fill(1, 0, 6, 1)
	b.works(b.a.Checkpoint())
	b.fill(1, 4, 4, 2)
	b.made(redo.Op{Kind: redo.Clone, ID: 1})
	b.fill(2, 9, 1, 3)
	b.works(b.a.Flush())
	sure := b.view()
	for n := 0; ; n++ {
		c := d.Clone()
		c.Arm(n)
		a, e := block.Mount(c)
		if e == api.OK {
			if n < 15 {
				t.Errorf("%d calls alone", n)
			}
			return
		}
		if e != api.ErrCut || a != nil {
			t.Fatalf("Mount with %d calls: %v, %d", n, a, e)
		}
		fails(t, "no power", c, api.ErrCut)
		for i, cuts := range tears(len(c.Loose())) {
			x := c.Clone()
			x.Crash(cuts...)
			if i%5 == 0 {
				x.Arm(i % 31)
				if _, e := block.Mount(x); e != api.OK {
					x.Crash(cuts...)
				}
				x.Crash()
			}
			over(t, x).is("cut within Mount", sure)
		}
	}
}

// P19.2: ops that weren't flushed, and a cut within Mount, which makes them sure: they are there, or lost.
func TestMountLoose(t *testing.T) {
	b := newBox(t, 70, 16, 256)
	b.create(30)
	b.works(b.a.Flush())
	views := []view{b.view()}
	for i := range 3 {
		b.fill(1, 3*i, 4, uint64(i))
		views = append(views, b.view())
	}
	for n := 0; ; n++ {
		c := b.d.Clone()
		c.Arm(n)
		if a, e := block.Mount(c); e == api.OK {
			if c.Loose() != nil || len(a.Entries()) != 1 {
				t.Errorf("Mount: %v are loose", c.Loose())
			}
			return
		}
		for _, cuts := range tears(len(c.Loose())) {
			x := c.Clone()
			x.Crash(cuts...)
			over(t, x).one("cut within Mount", views)
		}
	}
}

// P19.2: what stood in the journal of an epoch isn't done upon a later one: ops that would do something else, or
// something at all, if they were done twice.
func TestOldRecords(t *testing.T) {
	b := newBox(t, 100, 20, 256)
	b.create(5)
	for range 3 {
		b.made(redo.Op{Kind: redo.Clone, ID: 1})
		b.works(b.a.Checkpoint())
		b.again(whole(b.d)...).is("a checkpoint", b.view())
	}
	b.fill(1, 0, 3, 1)
	b.works(b.a.Flush())
	for range 5 {
		v := b.view()
		b = b.again()
		b.is("Mount", v)
		b.do(redo.Op{Kind: redo.Trim, ID: 1, N: 1})
		b.do(written(1, 0, sector("x")))
		b.works(b.a.Flush())
	}
}

// P19.3, P5: what a snapshot that was flushed reads stays, whatever is done with others, until it is deleted.
func TestSnapshot(t *testing.T) {
	seen := map[string]int{}
	for seed := range uint64(20) {
		p := newPlay(t, seed, 150, []int{4, 20, 100}[seed%3], 256, seen)
		p.create(20)
		p.fill(1, 0, 9, seed)
		p.do(redo.Op{Kind: redo.Trim, ID: 1, At: 2, N: 3})
		id := p.made(redo.Op{Kind: redo.Snapshot, ID: 1})
		p.works(p.a.Flush())
		want, e := p.a.Read(id, 0, 20)
		p.works(e)
		sum, _ := p.a.Sum(id)
		for range 60 {
			p.d.Arm(p.next(200))
			for n := p.next(20); n > 0; n-- {
				if o := p.op(); o.Kind != redo.Delete || o.ID != id {
					p.a.Do(o)
				}
				p.a.Flush()
			}
			if p.d.Dead() || p.next(4) == 0 {
				p.box = p.mount(p.d.Clone())
			}
			if s, e := p.a.Read(id, 0, 20); s != want || e != api.OK {
				t.Fatalf("Read: %q, %d", s, e)
			}
			if x, e := p.a.Sum(id); x != sum || e != api.OK {
				t.Fatalf("Sum: %s, %d", x.Hex(), e)
			}
		}
		p.d.Arm(1 << 30)
		p.do(redo.Op{Kind: redo.Delete, ID: id})
		if s, e := p.a.Read(id, 0, 20); s != "" || e != api.ErrNone {
			t.Errorf("Read: %q, %d", s, e)
		}
	}
}
