package core_test

import (
	"maps"
	"testing"

	"stereobate/api"
	"stereobate/disk"
	"stereobate/pack"
	"stereobate/sha"
)

// call is one that may be refused, of volumes 1 (of 40 sectors), 2 (its snapshot) and 3 (its clone).
type call struct {
	what string
	run  func(b *box) api.Errno
}

// calls: all that change volumes.
func calls() []call {
	return []call{
		{"Create", func(b *box) api.Errno { _, e := b.c.Create(5); return e }},
		{"Snapshot", func(b *box) api.Errno { _, e := b.c.Snapshot(1); return e }},
		{"Clone", func(b *box) api.Errno { _, e := b.c.Clone(2); return e }},
		{"Delete", func(b *box) api.Errno { return b.c.Delete(1) }},
		{"Resize", func(b *box) api.Errno { return b.c.Resize(1, 13) }},
		{"Resize to more", func(b *box) api.Errno { return b.c.Resize(3, 50) }},
		{"Write", func(b *box) api.Errno { return b.c.Write(3, 2, some(noise(9), 30*64)) }},
		{"Write of a sector", func(b *box) api.Errno { return b.c.Write(1, 39, sector("x")) }},
		{"Trim", func(b *box) api.Errno { return b.c.Trim(1, 5, 30) }},
		{"Trim of all", func(b *box) api.Errno { return b.c.Trim(3, 0, 40) }},
		{"Trim of one", func(b *box) api.Errno { return b.c.Trim(3, 6, 1) }},
	}
}

// three: volumes of which the calls are made.
func three(t *testing.T) *box {
	b := newBox(t, 400, 2, 256)
	b.made(b.c.Create(40))
	b.fill(1, 0, 40, 1)
	b.made(b.c.Snapshot(1))
	b.made(b.c.Clone(1))
	b.fill(3, 6, 20, 2)
	b.fill(1, 10, 6, 3)
	return b
}

// P16.1: each call is one Try: it is undone with the one around it.
func TestUndone(t *testing.T) {
	for _, c := range calls() {
		b := three(t)
		was, texts := b.state(), b.texts()
		if e := b.h.Try(func() {
			b.c.SetEpoch(77)
			b.works(c.run(b))
			for _, d := range calls() {
				d.run(b)
			}
			pack.Fail(api.ErrBase)
		}); e != api.ErrBase {
			t.Errorf("%s: Try: %d", c.what, e)
		}
		b.is(c.what+" is undone", was)
		if !maps.Equal(b.texts(), texts) {
			t.Errorf("%s is undone: other bytes", c.what)
		}
		b.reached()
		if x := b.info(b.made(b.c.Create(1))); x.Born != 1 {
			t.Errorf("%s is undone: the epoch is %d", c.what, x.Born)
		}
	}
}

// P16.1: one that is refused within a Try that goes on has changed nothing; what came ahead of it stays.
func TestGoesOn(t *testing.T) {
	b := three(t)
	b.works(b.h.Try(func() {
		b.works(b.c.Write(1, 0, sector("ahead")))
		b.refused("Write", api.ErrRange, func() api.Errno { return b.c.Write(1, 39, noughts(128)) })
		b.refused("Create", api.ErrArg, func() api.Errno { _, e := b.c.Create(0); return e })
		b.refused("Delete", api.ErrNone, func() api.Errno { return b.c.Delete(9) })
		b.works(b.c.Write(1, 1, sector("behind")))
	}))
	s, e := b.c.Read(1, 0, 2)
	if e != api.OK || s != sector("ahead")+sector("behind") {
		t.Errorf("Read: %s, %d", short(s), e)
	}
	b.reached()
}

// P16.1, P16.3: the power is cut at each of a call's writes: nothing has changed. What was sure is there behind
// a crash, whatever is torn.
func TestCut(t *testing.T) {
	for _, c := range calls() {
		for left := 0; ; left++ {
			b := three(t)
			b.works(pack.Guard(b.d.Sync))
			was, texts := b.state(), b.texts()
			b.d.Arm(left)
			e := c.run(b)
			if e == api.OK {
				break
			}
			if e != api.ErrCut || !b.d.Dead() {
				t.Fatalf("%s with %d writes: %d", c.what, left, e)
			}
			b.is(c.what, was)
			d := b.d.Clone()
			d.Crash(left, 64, 7, 0, 33, 64, 64)
			a := over(t, d, 2, 256, b.c.Next())
			b.works(pack.Guard(func() { a.c.Adopt(b.c.Entries()) }))
			if !maps.Equal(a.texts(), texts) {
				t.Fatalf("%s with %d writes, and a crash: other bytes", c.what, left)
			}
		}
	}
}

// P16.1: without power those calls that read or write the disk answer so, behind what else stands in the way.
func TestDead(t *testing.T) {
	b := three(t)
	b.made(b.c.Create(9))
	b.cut()
	for i, c := range []struct {
		want api.Errno
		run  func() api.Errno
	}{
		{api.ErrCut, func() api.Errno { _, e := b.c.Read(1, 0, 1); return e }},
		{api.ErrCut, func() api.Errno { return b.c.Write(1, 0, sector("x")) }},
		{api.ErrCut, func() api.Errno { return b.c.Write(4, 0, sector("x")) }},
		{api.ErrCut, func() api.Errno { return b.c.Trim(1, 0, 1) }},
		{api.ErrCut, func() api.Errno { return b.c.Resize(1, 5) }},
		{api.ErrCut, func() api.Errno { return b.c.Delete(1) }},
		{api.ErrNone, func() api.Errno { return b.c.Delete(9) }},
		{api.ErrNone, func() api.Errno { _, e := b.c.Sum(9); return e }},
		{api.ErrOnly, func() api.Errno { return b.c.Trim(2, 0, 1) }},
		{api.ErrArg, func() api.Errno { return b.c.Write(1, 0, "x") }},
		{api.ErrRange, func() api.Errno { return b.c.Write(1, 40, sector("x")) }},
		{api.ErrRange, func() api.Errno { _, e := b.c.Read(1, 0, 41); return e }},
		{api.ErrArg, func() api.Errno { return b.c.Resize(1, 0) }},
		{api.OK, func() api.Errno { _, e := b.c.Read(1, 0, 0); return e }},
		{api.OK, func() api.Errno { return b.c.Write(1, 40, "") }},
		{api.OK, func() api.Errno { _, e := b.c.Read(4, 0, 9); return e }},
		{api.OK, func() api.Errno { return b.c.Trim(4, 0, 9) }},
		{api.OK, func() api.Errno { return b.c.Write(4, 1, noughts(5*64)) }},
	} {
		b.refused("call "+string(rune('a'+i)), c.want, c.run)
	}
	b.refused("Sum", api.ErrCut, func() api.Errno {
		sum, e := b.c.Sum(1)
		if sum != (sha.Sum{}) {
			t.Errorf("Sum: %s", sum.Hex())
		}
		return e
	})
}

// P16.3: with any room: each call is done, or ErrSpace, and then nothing has changed; as many sectors are left
// as the volumes ask for.
func TestNoRoom(t *testing.T) {
	for _, c := range calls() {
		refused := 0
		for free := range 120 {
			b := three(t)
			was := b.h.Free()
			b.leave(free)
			s, texts := b.state(), b.texts()
			switch e := c.run(b); e {
			case api.OK:
				if b.h.Free() < free && b.h.Free() < 6 {
					t.Errorf("%s: %d are free", c.what, b.h.Free())
				}
			case api.ErrSpace:
				refused++
				b.is(c.what, s)
				if !maps.Equal(b.texts(), texts) {
					t.Errorf("%s: other bytes", c.what)
				}
				if free > 6+8*10 {
					t.Errorf("%s: ErrSpace with %d sectors", c.what, free)
				}
			default:
				t.Errorf("%s with %d sectors: %d", c.what, free, e)
			}
			if was < 130 {
				t.Fatalf("%d sectors are free", was)
			}
		}
		if want := map[string]bool{"Delete": true, "Resize to more": true}[c.what]; want != (refused == 0) {
			t.Errorf("%s: refused %d times", c.what, refused)
		}
	}
}

// P16.3: of extents that have nothing in common each takes eight sectors, and twice the volumes are left: with
// just so many it is done, with one less it isn't.
func TestWriteSpace(t *testing.T) {
	for volumes := 1; volumes <= 16; volumes++ {
		for _, extents := range []int{1, 2, 7} {
			for from := range 3 {
				need := 2*volumes + 8*extents
				if from == 0 {
					need++ // sector 0 isn't told as anything: it is passed over
				}
				for _, free := range []int{need, need - 1} {
					b := newBox(t, 300, from, 256)
					b.made(b.c.Create(2048))
					for range volumes - 1 {
						b.made(b.c.Clone(1))
					}
					b.leave(free)
					run := func() api.Errno { return b.c.Write(1, 0, some(noise(4), extents*256)) }
					if free < need {
						b.refused("Write", api.ErrSpace, run)
						continue
					}
					b.works(run())
					left := free - 8*extents + 3*(extents-1) // the nodes but the last ones were let go
					if b.h.Free() != left {
						t.Errorf("%d volumes, %d extents: %d are free, not %d", volumes, extents, b.h.Free(), left)
					}
					b.reached()
				}
			}
		}
	}
}

// P16.3: sectors are left while a call runs, and not behind it, whether it was done or refused.
func TestKeep(t *testing.T) {
	for _, c := range calls() {
		for _, free := range []int{1, 200} {
			b := three(t)
			b.leave(free)
			if e := c.run(b); e != api.OK && (free > 1 || e != api.ErrSpace) {
				t.Errorf("%s with %d sectors: %d", c.what, free, e)
			}
			b.works(b.h.Try(func() {
				for b.h.Free() > 0 {
					b.h.Put("somebody else's")
				}
			}))
		}
	}
}

// P16.3: volumes that went ask for no room any more.
func TestKeepCounts(t *testing.T) {
	b := over(t, disk.New(60), 2, 256, 1)
	b.made(b.c.Create(4))
	b.made(b.c.Create(4))
	b.leave(11)
	b.refused("Write", api.ErrSpace, func() api.Errno { return b.c.Write(1, 0, some(noise(1), 256)) })
	b.works(b.c.Delete(2))
	b.works(b.c.Write(1, 0, some(noise(1), 256)))
	if b.h.Free() != 3 {
		t.Errorf("%d are free", b.h.Free())
	}
}
