package block_test

import (
	"testing"

	"stereobate/api"
	"stereobate/extent"
	"stereobate/pack"
	"stereobate/redo"
	"stereobate/store"
	"stereobate/super"
)

// P19.1: Change: all that it does is in a checkpoint; nothing of it stands in the journal, nor what stood there
// ahead of it.
func TestChange(t *testing.T) {
	b := newBox(t, 200, 30, 256)
	b.create(10)
	b.fill(1, 0, 4, 1)
	epoch := b.epoch()
	b.works(b.a.Change(func(s *store.Store) {
		if s != b.a.Store() {
			t.Error("another store")
		}
		if s.Heap.Log.Deep() == 0 {
			t.Error("it runs within no Try")
		}
		b.works(s.Write(1, 2, some(noise(2), 3*64)))
		b.volume(s.Snapshot(1))
		b.works(s.Trim(1, 0, 2))
		b.volume(s.Create(7))
		b.works(s.Delete(3))
	}))
	if b.epoch() != epoch+1 {
		t.Errorf("epoch %d, not %d", b.epoch(), epoch+1)
	}
	b.fresh()
	x, y := some(noise(1), 4*64), some(noise(2), 3*64)
	for id, want := range map[uint32]string{1: noughts(2*64) + y, 2: x[:2*64] + y} {
		if s, e := b.a.Read(id, 0, 5); s != want || e != api.OK {
			t.Errorf("Read(%d): %q, %d", id, s, e)
		}
	}
	b.again().is("a Change", b.view())
	if id := b.create(1); id != 4 {
		t.Errorf("Create: %d", id)
	}
}

// volume: one was made.
func (b *box) volume(_ uint32, e api.Errno) {
	b.t.Helper()
	b.works(e)
}

// P19.1: a Change of nothing is a checkpoint; so is one that fails with OK, and one without anything that runs.
func TestChangeNothing(t *testing.T) {
	for i, run := range []func(*store.Store){nil, func(*store.Store) {}, func(*store.Store) { pack.Fail(api.OK) }} {
		b := newBox(t, 100, 30, 256)
		b.create(10)
		b.fill(1, 0, 4, 1)
		v, epoch := b.view(), b.epoch()
		b.works(b.a.Change(run))
		b.fresh()
		b.is("Change", v)
		if b.epoch() != epoch+1 {
			t.Errorf("%d: epoch %d, not %d", i, b.epoch(), epoch+1)
		}
		b.again().is("Change", v)
	}
}

// P19.1: a Change that fails has changed nothing: neither volumes, nor the journal, nor the last checkpoint.
func TestChangeFails(t *testing.T) {
	b := newBox(t, 200, 30, 256)
	b.create(10)
	b.fill(1, 0, 10, 1)
	b.works(b.a.Checkpoint())
	b.fill(1, 4, 4, 2)
	b.made(redo.Op{Kind: redo.Snapshot, ID: 1})
	was, v := b.state(), b.view()
	for e := api.ErrForm; e <= api.ErrKind; e++ {
		if got := b.a.Change(func(s *store.Store) {
			b.works(s.Write(1, 0, some(noise(3), 10*64)))
			b.volume(s.Create(5))
			b.works(s.Delete(2))
			s.SetEpoch(77)
			s.Heap.Keep(5)
			s.Maps.Extents.Put(some(noise(4), 256))
			pack.Fail(e)
		}); got != e {
			t.Errorf("Change: %d, not %d", got, e)
		}
		b.same("a Change that failed", was)
		b.is("a Change that failed", v)
	}
	b.again(whole(b.d)...).is("a Change that failed", v)
	b.create(5)
	b.fill(3, 0, 5, 5)
	b.again(whole(b.d)...).is("ops behind a Change that failed", b.view())
}

// P19.1: what runs may take the sectors that volumes leave for a checkpoint: then there isn't room for that, and
// nothing has changed.
func TestChangeTakesAll(t *testing.T) {
	b := newBox(t, 60, 30, 256)
	b.create(10)
	b.create(9)
	b.fill(1, 0, 6, 1)
	b.works(b.a.Checkpoint())
	b.do(redo.Op{Kind: redo.Trim, ID: 1, N: 4})
	was, v := b.state(), b.view()
	for left := range was.free + 1 {
		c := over(t, b.d.Clone())
		free := c.a.Store().Heap.Free()
		left = min(left, free)
		had := c.state()
		next := noise(uint64(left))
		e := c.a.Change(func(s *store.Store) {
			for range free - left {
				s.Heap.Put(some(next, 64))
			}
		})
		if left < 2 {
			if e != api.ErrSpace {
				t.Errorf("Change that leaves %d: %d", left, e)
			}
			c.same("no room for a checkpoint", had)
			c.is("no room for a checkpoint", v)
			c.create(3)
			c.again(whole(c.d)...).is("an op behind it", c.view())
		} else if e != api.OK || c.epoch() != had.epoch+1 || c.a.Room() != 30 {
			t.Errorf("Change that leaves %d: %d, epoch %d", left, e, c.epoch())
		} else {
			c.is("room for a checkpoint", v)
		}
	}
	b.same("others", was)
	b.is("others", v)
	if e := b.a.Change(func(s *store.Store) {
		for {
			s.Heap.Put("")
		}
	}); e != api.ErrSpace {
		t.Errorf("Change: %d", e)
	}
	b.same("no room", was)
}

// P19.1: Changes that are refused by what their calls answer, and by a heap that is too full.
func TestChangeOfMuch(t *testing.T) {
	b := newBox(t, 80, 30, 256)
	b.create(200)
	was, v := b.state(), b.view()
	e := b.a.Change(func(s *store.Store) {
		for at := 0; ; at += 4 {
			if e := s.Write(1, at, some(noise(uint64(at)), 256)); e != api.OK {
				pack.Fail(e)
			}
		}
	})
	if e != api.ErrSpace {
		t.Errorf("Change: %d", e)
	}
	b.same("no room", was)
	b.is("no room", v)
	e = b.a.Change(func(s *store.Store) {
		for at := 0; s.Write(1, at, some(noise(uint64(at)), 256)) == api.OK; at += 4 {
		}
	})
	if e != api.OK {
		t.Errorf("Change: %d", e)
	}
	b.fresh()
	b.again().is("as much as there is room for", b.view())
}

// P19.1: what runs may make calls of maps and extents; they are there, and whole, behind it.
func TestChangeOfMaps(t *testing.T) {
	b := newBox(t, 200, 30, 256)
	x := some(noise(1), extent.Len)
	b.create(8)
	b.do(written(1, 4, x))
	had := ""
	b.works(b.a.Change(func(s *store.Store) {
		info, _ := s.Info(1)
		had = s.Maps.Extents.Get(s.Maps.Get(info.Root, 1))
		at := s.Maps.Extents.Put(x)
		s.Maps.Extents.Less(at)
	}))
	if had != x {
		t.Errorf("Get: %q", had)
	}
	b.fresh()
}

// P19.2: wherever the power is cut within a Change, all of it is there, or nothing.
func TestChangeCut(t *testing.T) {
	b := newBox(t, 200, 60, 256)
	b.create(30)
	b.fill(1, 0, 12, 1)
	b.made(redo.Op{Kind: redo.Clone, ID: 1})
	b.works(b.a.Flush())
	run := func(s *store.Store) {
		b.goesOn(s.Write(1, 0, some(noise(2), 6*64)))
		b.goesOn(s.Write(2, 3, some(noise(3), 9*64)))
		b.goesOn(s.Delete(1))
	}
	was := b.view()
	c := b.again()
	c.works(c.a.Change(run))
	now := c.view()
	for n := 0; ; n++ {
		c = over(t, b.d.Clone())
		c.d.Arm(n)
		e := c.a.Change(run)
		if e == api.OK {
			if n < 20 {
				t.Errorf("%d calls alone", n)
			}
			return
		}
		if e != api.ErrCut || !c.a.Dead() {
			t.Fatalf("Change with %d calls: %d", n, e)
		}
		all := 0
		for _, cuts := range tears(len(c.d.Loose())) {
			all += c.again(cuts...).one("Change", []view{was, now})
		}
		if l := c.d.Loose(); (all > 0) != (len(l) == 1 && l[0] < super.Slots) {
			t.Errorf("Change with %d calls: %v are loose, %d times all", n, l, all)
		}
	}
}

// goesOn: a call of volumes within a Change, without an error but the power's.
func (b *box) goesOn(e api.Errno) {
	b.t.Helper()
	if e == api.ErrCut {
		pack.Fail(e)
	}
	b.works(e)
}
