package store_test

import (
	"slices"
	"testing"

	"stereobate/api"
	"stereobate/disk"
	"stereobate/pack"
	"stereobate/super"
)

// full: a disk of noise, sure.
func full(t *testing.T, n int) *disk.Disk {
	t.Helper()
	d := disk.New(n)
	next := noise(3)
	if e := pack.Guard(func() {
		for at := range n {
			d.Write(at, some(next, 64))
		}
		d.Sync()
	}); e != api.OK {
		t.Fatalf("Write: %d", e)
	}
	return d
}

// P18.1: what stands in the way of a super of Epoch 1 is told in its order, ahead of the disk's errors, and
// changes nothing.
func TestFormatErrors(t *testing.T) {
	const most, least = 1<<63 - 1, -1 << 63
	for _, c := range []struct {
		sectors, journal, bits int
		want                   api.Errno
	}{
		{38, 4, 256, api.OK}, {38, 4, 1, api.OK}, {39, 5, 8, api.OK}, {546, 512, 256, api.OK}, {4096, 512, 256, api.OK}, {4096, 4, 7, api.OK},
		{100, 3, 256, api.ErrArg}, {1000, 513, 256, api.ErrArg}, {100, 0, 256, api.ErrArg}, {100, -4, 256, api.ErrArg},
		{100, most, 256, api.ErrArg}, {100, least, 256, api.ErrArg}, {100, 1 << 32, 1, api.ErrArg}, {100, 1<<16 + 4, 1, api.ErrArg},
		{100, 4, 0, api.ErrArg}, {100, 4, 257, api.ErrArg}, {100, 4, -1, api.ErrArg}, {100, 4, most, api.ErrArg}, {100, 4, least, api.ErrArg},
		{37, 4, 256, api.ErrSpace}, {38, 5, 256, api.ErrSpace}, {545, 512, 256, api.ErrSpace}, {0, 4, 1, api.ErrSpace}, {1, 4, 1, api.ErrSpace},
		{37, 3, 256, api.ErrArg}, {0, 4, 0, api.ErrArg},
	} {
		for _, dead := range []bool{false, true} {
			d := full(t, c.sectors)
			if dead {
				cut(d)
			}
			was, want := d.Clone(), c.want
			if dead && want == api.OK {
				want = api.ErrCut
			}
			if e := format(d, c.journal, c.bits); e != want {
				t.Errorf("Format of %d sectors, %d, %d: %d, not %d", c.sectors, c.journal, c.bits, e, want)
			}
			if want != api.OK {
				alike(t, "Format", d, was)
			}
		}
	}
}

// P18.1: behind it a super stands in its slot, all else ahead of the heap is bytes 0, whatever stood there, and
// the heap isn't touched; all is sure.
func TestFormat(t *testing.T) {
	for _, c := range []struct{ sectors, journal, bits int }{{38, 4, 256}, {100, 20, 3}, {546, 512, 1}} {
		d := full(t, c.sectors)
		was := d.Clone()
		if e := format(d, c.journal, c.bits); e != api.OK || d.Loose() != nil {
			t.Fatalf("Format: %d, %v are loose", e, d.Loose())
		}
		want := super.Super{Epoch: 1, Journal: c.journal, Bits: c.bits, Next: 1}
		for at := range c.sectors {
			switch s := on(d, at); {
			case at >= 2+c.journal && s != on(was, at):
				t.Errorf("sector %d of the heap is another one", at)
			case at != 1 && at < 2+c.journal && s != noughts(64):
				t.Errorf("sector %d has %q", at, s)
			}
		}
		b := over(t, d)
		if b.s.Super != want || b.s.Disk != d || b.s.Heap.Disk != d || b.s.Heap.Held() != 0 || b.s.Heap.Free() != c.sectors-2-c.journal {
			t.Errorf("Open: %+v, %d are held, %d are free", b.s.Super, b.s.Heap.Held(), b.s.Heap.Free())
		}
		b.is("Open", view{next: 1})
	}
}

// P18.1: the sectors, a Sync, the super, a Sync: each call of the disk may be the one within which the power is
// cut; the super isn't written while something else may stand ahead of the heap.
func TestFormatCut(t *testing.T) {
	const journal = 6
	const calls = 2 + journal + 3
	for n := range calls + 1 {
		d := full(t, 60)
		was := d.Clone()
		d.Arm(n)
		e := format(d, journal, 9)
		if n == calls {
			if e != api.OK || d.Dead() {
				t.Errorf("Format with %d calls: %d", n, e)
			}
			continue
		}
		if e != api.ErrCut || !d.Dead() {
			t.Fatalf("Format with %d calls: %d", n, e)
		}
		lost, kept := d.Clone(), d.Clone()
		lost.Crash()
		kept.Crash(whole(d)...)
		if n < calls-2 { // ahead of the end of the first Sync
			alike(t, "Format that was cut", lost, was)
			fails(t, "the sectors", kept, api.ErrForm)
			continue
		}
		fails(t, "the super", lost, api.ErrForm)
		for at := range 2 + journal {
			if on(lost, at) != noughts(64) {
				t.Errorf("with %d calls sector %d isn't bytes 0", n, at)
			}
		}
		if n == calls-1 {
			over(t, kept)
		} else {
			fails(t, "ahead of the super", kept, api.ErrForm)
		}
	}
}

// P18.1: an archive over another one has nothing of it: neither its volumes, nor its epochs and numbers, nor
// what stood in its slots and its journal.
func TestFormatOver(t *testing.T) {
	for _, commits := range []int{1, 2, 5} {
		b := newBox(t, 200, 10, 256)
		for i := range commits {
			b.fill(b.made(b.s.Create(9)), i, 3, uint64(i))
			b.commit()
		}
		for at := range 10 {
			lay(t, b.d, 2+at, "a frame")
		}
		if e := format(b.d, 10, 256); e != api.OK {
			t.Fatalf("Format: %d", e)
		}
		a := over(t, b.d)
		a.is("Format over another one", view{next: 1})
		if a.s.Super != (super.Super{Epoch: 1, Journal: 10, Bits: 256, Next: 1}) || a.s.Heap.Held() != 0 {
			t.Errorf("Format over another one: %+v", a.s.Super)
		}
		if id := a.made(a.s.Create(3)); id != 1 {
			t.Errorf("Create: %d", id)
		}
		a.commit()
		if l := slices.Concat(a.s.Entries()); len(l) != 1 || l[0].Born != 1 || a.s.Super.Epoch != 2 {
			t.Errorf("Commit: %+v, %+v", l, a.s.Super)
		}
	}
}
