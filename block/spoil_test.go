package block_test

import (
	"testing"

	"stereobate/api"
	"stereobate/block"
	"stereobate/disk"
	"stereobate/redo"
	"stereobate/store"
	"stereobate/super"
)

// K2: a checkpoint that can't be made, as an entry of the last one is spoilt: whoever asks for it is told so, and
// nothing has changed; what asks for none goes on, and all of that is there when the entry is whole again.
func TestCheckpointSpoilt(t *testing.T) {
	b := newBox(t, 200, 8, 256)
	b.create(20)
	b.create(21)
	b.fill(1, 0, 4, 1)
	b.works(b.a.Checkpoint())
	_, l := b.catalog()
	b.fill(1, 2, 1, 2)
	for _, at := range l {
		c := over(t, b.d.Clone())
		c.fill(1, 4, 1, 3)
		_, l := c.catalog()
		at = l[at%len(l)]
		spoil(c.d, at)
		for range 3 {
			c.refused("Checkpoint", api.ErrSum, c.a.Checkpoint)
			c.refused("Change", api.ErrSum, func() api.Errno {
				return c.a.Change(func(s *store.Store) { s.Create(9); s.Write(1, 0, some(noise(4), 5*64)); s.Delete(2) })
			})
			c.refused("Do", api.ErrSum, func() api.Errno { return c.told(written(1, 0, some(noise(5), 9*64))) })
			c.refused("Do", api.ErrSum, func() api.Errno {
				return c.told(redo.Op{Kind: redo.Create, N: 9, Data: noughts(400)})
			})
			c.create(3)
			c.works(c.a.Flush())
		}
		v := c.view()
		fails(t, "a spoilt entry", c.d.Clone(), api.ErrSum)
		spoil(c.d, at)
		c.again().is("whole again", v)
		c.works(c.a.Checkpoint())
		c.fresh()
		c.is("whole again", v)
	}
}

// told: the error of an op that makes no volume.
func (b *box) told(o redo.Op) api.Errno {
	b.t.Helper()
	id, e := b.a.Do(o)
	if id != 0 {
		b.t.Fatalf("Do: %d, %d", id, e)
	}
	return e
}

// K2: an op for which there isn't room, and no checkpoint that could make some.
func TestSpaceSpoilt(t *testing.T) {
	b := newBox(t, 40, 60, 256)
	b.create(16)
	b.fill(1, 0, 12, 1)
	b.works(b.a.Checkpoint())
	_, l := b.catalog()
	spoil(b.d, l[0])
	was, v := b.state(), b.view()
	if id, e := b.a.Do(written(1, 0, some(noise(2), 12*64))); id != 0 || e != api.ErrSum {
		t.Errorf("Do: %d, %d", id, e)
	}
	b.same("a spoilt entry", was)
	b.is("a spoilt entry", v)
	spoil(b.d, l[0])
	if e := b.told(written(1, 0, some(noise(2), 12*64))); e != api.ErrSpace {
		t.Errorf("Do: %d", e)
	}
	b.settled()
	b.is("no room", v)
}

// K2: likewise behind the last epoch, behind which there is none.
func TestLastEpoch(t *testing.T) {
	at := func(epoch uint32) *disk.Disk {
		d := formatted(t, 100, 6, 256)
		laySuper(t, d, super.Super{Epoch: epoch, Journal: 6, Bits: 256, Next: 5})
		return d
	}
	fails(t, "the last epoch", at(1<<32-1), api.ErrArg)
	b := over(t, at(1<<32-3))
	b.works(b.a.Checkpoint())
	if b.epoch() != 1<<32-1 || b.create(9) != 5 {
		t.Errorf("epoch %d", b.epoch())
	}
	b.refused("Checkpoint", api.ErrArg, b.a.Checkpoint)
	b.refused("Change", api.ErrArg, func() api.Errno { return b.a.Change(func(s *store.Store) { s.Create(9); s.Delete(5) }) })
	b.refused("Do", api.ErrArg, func() api.Errno { return b.told(written(5, 0, some(noise(5), 5*64))) })
	for range 5 {
		b.do(redo.Op{Kind: redo.Resize, ID: 5, N: 8})
	}
	for _, o := range []redo.Op{{Kind: redo.Create, N: 1}, {Kind: redo.Clone, ID: 5}, {Kind: redo.Delete, ID: 5}, {Kind: redo.Resize, ID: 5, N: 7}} {
		b.refused("Do", api.ErrArg, func() api.Errno { return b.told(o) })
	}
	b.works(b.a.Flush())
	v := b.view()
	fails(t, "the last epoch", b.d, api.ErrArg)
	b.is("the last epoch", v)
}

// P19.1: a sector of a map that is spoilt: Mount's error is layer 18's; of an extent's sector nobody asks there.
func TestMountSpoilt(t *testing.T) {
	b := newBox(t, 100, 20, 256)
	b.create(40)
	b.fill(1, 0, 4, 1)
	b.works(b.a.Checkpoint())
	info, _ := b.a.Info(1)
	seen := map[api.Errno]int{}
	for _, at := range b.reach() {
		d := b.d.Clone()
		spoil(d, at)
		a, e := block.Mount(d)
		if (a == nil) == (e == api.OK) || at == info.Root && e != api.ErrSum {
			t.Errorf("Mount with %d spoilt: %v, %d", at, a, e)
		}
		seen[e]++
	}
	if seen[api.OK] != 4 || seen[api.ErrSum] != 4 {
		t.Errorf("Mount: %v", seen)
	}
}

// P19.1: an op that can't be done once more, as what it reads was spoilt since, ends what is done once more: those
// ahead of it are there, and those behind it aren't.
func TestReplaySpoilt(t *testing.T) {
	b := newBox(t, 200, 40, 256)
	b.create(40)
	b.fill(1, 0, 8, 1)
	b.works(b.a.Checkpoint())
	checkpoint := b.reach()
	b.fill(1, 5, 1, 2)
	was := b.view()
	b.fill(1, 2, 1, 3) // of an extent that has to be read
	b.create(9)
	b.works(b.a.Flush())
	b.again().is("nothing is spoilt", b.view())
	for _, at := range []int{0, 1, 3} {
		d := b.d.Clone()
		for _, held := range checkpoint {
			if on(d, held) == was.texts[0][at*64:at*64+64] {
				spoil(d, held)
			}
		}
		c := over(t, d)
		if l := c.a.Entries(); len(l) != 1 || c.a.Store().Next() != was.next {
			t.Errorf("Mount: %+v", l)
		}
		if s, e := c.a.Read(1, 4, 4); e != api.OK || s != was.texts[0][4*64:8*64] {
			t.Errorf("Read: %q, %d", s, e)
		}
		if _, e := c.a.Read(1, 0, 4); e != api.ErrSum {
			t.Errorf("Read: %d", e)
		}
	}
}
