package super_test

import (
	"encoding/binary"
	"math"
	"slices"
	"strings"
	"testing"

	"stereobate/api"
	"stereobate/disk"
	"stereobate/pack"
	"stereobate/super"
)

// noise answers numbers below n, the same ones each time.
func noise(seed uint64) func(n int) int {
	return func(n int) int {
		seed = seed*6364136223846793005 + 1442695040888963407
		return int((seed >> 33) % uint64(n))
	}
}

// some: so many bytes of noise.
func some(next func(int) int, n int) string {
	b := make([]byte, n)
	for i := range b {
		b[i] = byte(next(256))
	}
	return string(b)
}

// good: one that Check lets through on 100 sectors.
func good(epoch uint32) super.Super {
	return super.Super{Epoch: epoch, Journal: 10, Bits: 16, Head: 50, Next: 5}
}

// frame: by the document's words, byte by byte, at its places.
func frame(epoch, seq uint32, text string) string {
	b := make([]byte, 64)
	for _, at := range []int{0, 56} {
		binary.BigEndian.PutUint32(b[at:], epoch)
		binary.BigEndian.PutUint32(b[at+4:], seq)
	}
	b[8] = byte(len(text))
	copy(b[9:56], text)
	return string(b)
}

// text: a super's bytes by the document's words.
func text(s super.Super) string {
	b := []byte("SBAT")
	b = binary.BigEndian.AppendUint16(b, uint16(s.Journal))
	b = binary.BigEndian.AppendUint16(b, uint16(s.Bits))
	b = binary.BigEndian.AppendUint16(b, uint16(s.Head))
	return string(binary.BigEndian.AppendUint32(b, s.Next))
}

// laid: a super's sector by the document's words.
func laid(s super.Super) string {
	return frame(s.Epoch, 0, text(s))
}

// refused: Check's error by the document's words, each error asked by itself, told as the least in their order.
func refused(s super.Super, sectors int) api.Errno {
	heap, found := 0, false
	for at := 2 + max(min(s.Journal, 600), -2); at < min(sectors, 5000); at++ {
		heap++
		found = found || at == s.Head
	}
	faults := []struct {
		is bool
		e  api.Errno
	}{
		{s.Journal < 4, api.ErrArg}, {s.Journal > 512, api.ErrArg},
		{s.Bits < 1, api.ErrArg}, {s.Bits > 256, api.ErrArg},
		{s.Epoch == 0, api.ErrArg}, {s.Next == 0, api.ErrArg},
		{sectors > 4096, api.ErrBig},
		{heap < 32, api.ErrSpace},
		{s.Head != 0 && !found, api.ErrRange},
	}
	for _, f := range faults {
		if f.is {
			return f.e
		}
	}
	return api.OK
}

func write(d *disk.Disk, s super.Super) api.Errno {
	return pack.Guard(func() { s.Write(d) })
}

func read(d *disk.Disk) (super.Super, api.Errno) {
	var s super.Super
	e := pack.Guard(func() { s = super.Read(d) })
	return s, e
}

// put: a sector as others might write it, sure.
func put(t *testing.T, d *disk.Disk, at int, s string) {
	t.Helper()
	if e := pack.Guard(func() { d.Write(at, s); d.Sync() }); e != api.OK {
		t.Fatalf("Write %d: %d", at, e)
	}
}

// sector: what is there.
func sector(t *testing.T, d *disk.Disk, at int) string {
	t.Helper()
	s := ""
	if e := pack.Guard(func() { s = d.Read(at) }); e != api.OK {
		t.Fatalf("Read %d: %d", at, e)
	}
	return s
}

// all: what is there, sector by sector.
func all(t *testing.T, d *disk.Disk) []string {
	t.Helper()
	var l []string
	for at := range d.Len() {
		l = append(l, sector(t, d, at))
	}
	return l
}

// with: a disk of so many sectors, whose first ones are these, sure.
func with(t *testing.T, n int, first ...string) *disk.Disk {
	t.Helper()
	d := disk.New(n)
	for at, s := range first {
		put(t, d, at, s)
	}
	return d
}

// reads: that super is there.
func reads(t *testing.T, what string, d *disk.Disk, want super.Super) {
	t.Helper()
	if got, e := read(d); e != api.OK || got != want {
		t.Errorf("%s: Read: %+v, %d, not %+v", what, got, e, want)
	}
}

// none: no super is there, and nothing is told beside the error.
func none(t *testing.T, what string, d *disk.Disk, want api.Errno) {
	t.Helper()
	if got, e := read(d); e != want || got != (super.Super{}) {
		t.Errorf("%s: Read: %+v, %d, not %d", what, got, e, want)
	}
}

// cut: the power of a disk is cut.
func cut(d *disk.Disk) *disk.Disk {
	d.Arm(0)
	pack.Guard(d.Sync)
	return d
}

// P7.1: the limits, and the document's example.
func TestExample(t *testing.T) {
	if super.Slots != 2 || super.MinJournal != 4 || super.MaxJournal != 512 || super.MinHeap != 32 {
		t.Errorf("limits: %d, %d, %d, %d", super.Slots, super.MinJournal, super.MaxJournal, super.MinHeap)
	}
	d := disk.New(100)
	if e := write(d, good(3)); e != api.OK || !slices.Equal(d.Loose(), []int{1}) {
		t.Errorf("Write of Epoch 3: %d, loose %v", e, d.Loose())
	}
}

// P7.1: Heap is the sector behind slots and journal, whatever else the super says.
func TestHeap(t *testing.T) {
	for journal, want := range map[int]int{-2: 0, -1: 1, 0: 2, 1: 3, 4: 6, 10: 12, 512: 514, 513: 515, 4096: 4098} {
		for _, s := range []super.Super{{Journal: journal}, {Epoch: 9, Journal: journal, Bits: 256, Head: 77, Next: 8}} {
			if got := s.Heap(); got != want {
				t.Errorf("Heap of Journal %d: %d, not %d", journal, got, want)
			}
		}
	}
}

// P7.1: Check, each error at its edges.
func TestCheckEdges(t *testing.T) {
	const least, most = math.MinInt, math.MaxInt
	for _, c := range []struct {
		s       super.Super
		sectors int
		want    api.Errno
	}{
		{super.Super{Epoch: 1, Journal: 3, Bits: 8, Next: 1}, 100, api.ErrArg},
		{super.Super{Epoch: 1, Journal: 4, Bits: 8, Next: 1}, 100, api.OK},
		{super.Super{Epoch: 1, Journal: 512, Bits: 8, Next: 1}, 1000, api.OK},
		{super.Super{Epoch: 1, Journal: 513, Bits: 8, Next: 1}, 1000, api.ErrArg},
		{super.Super{Epoch: 1, Journal: least, Bits: 8, Next: 1}, 100, api.ErrArg},
		{super.Super{Epoch: 1, Journal: most, Bits: 8, Next: 1}, 100, api.ErrArg},
		{super.Super{Epoch: 1, Journal: 4 + 65536, Bits: 8, Next: 1}, 100, api.ErrArg},
		{super.Super{Epoch: 1, Journal: 4, Bits: 0, Next: 1}, 100, api.ErrArg},
		{super.Super{Epoch: 1, Journal: 4, Bits: -1, Next: 1}, 100, api.ErrArg},
		{super.Super{Epoch: 1, Journal: 4, Bits: 1, Next: 1}, 100, api.OK},
		{super.Super{Epoch: 1, Journal: 4, Bits: 256, Next: 1}, 100, api.OK},
		{super.Super{Epoch: 1, Journal: 4, Bits: 257, Next: 1}, 100, api.ErrArg},
		{super.Super{Epoch: 1, Journal: 4, Bits: least, Next: 1}, 100, api.ErrArg},
		{super.Super{Epoch: 1, Journal: 4, Bits: most, Next: 1}, 100, api.ErrArg},
		{super.Super{Epoch: 0, Journal: 4, Bits: 8, Next: 1}, 100, api.ErrArg},
		{super.Super{Epoch: 1, Journal: 4, Bits: 8, Next: 0}, 100, api.ErrArg},
		{super.Super{Epoch: math.MaxUint32, Journal: 4, Bits: 8, Next: math.MaxUint32}, 100, api.OK},
		{super.Super{Epoch: 1, Journal: 4, Bits: 8, Next: 1}, 4096, api.OK},
		{super.Super{Epoch: 1, Journal: 4, Bits: 8, Next: 1}, 4097, api.ErrBig},
		{super.Super{Epoch: 1, Journal: 4, Bits: 8, Next: 1}, most, api.ErrBig},
		{super.Super{Epoch: 1, Journal: 4, Bits: 8, Next: 1}, 38, api.OK},
		{super.Super{Epoch: 1, Journal: 4, Bits: 8, Next: 1}, 37, api.ErrSpace},
		{super.Super{Epoch: 1, Journal: 512, Bits: 8, Next: 1}, 546, api.OK},
		{super.Super{Epoch: 1, Journal: 512, Bits: 8, Next: 1}, 545, api.ErrSpace},
		{super.Super{Epoch: 1, Journal: 4, Bits: 8, Next: 1}, 0, api.ErrSpace},
		{super.Super{Epoch: 1, Journal: 4, Bits: 8, Next: 1}, -1, api.ErrSpace},
		{super.Super{Epoch: 1, Journal: 4, Bits: 8, Next: 1}, least, api.ErrSpace},
		{super.Super{Epoch: 1, Journal: 4, Bits: 8, Head: -1, Next: 1}, 100, api.ErrRange},
		{super.Super{Epoch: 1, Journal: 4, Bits: 8, Head: least, Next: 1}, 100, api.ErrRange},
		{super.Super{Epoch: 1, Journal: 4, Bits: 8, Head: 1, Next: 1}, 100, api.ErrRange},
		{super.Super{Epoch: 1, Journal: 4, Bits: 8, Head: 5, Next: 1}, 100, api.ErrRange},
		{super.Super{Epoch: 1, Journal: 4, Bits: 8, Head: 6, Next: 1}, 100, api.OK},
		{super.Super{Epoch: 1, Journal: 4, Bits: 8, Head: 99, Next: 1}, 100, api.OK},
		{super.Super{Epoch: 1, Journal: 4, Bits: 8, Head: 100, Next: 1}, 100, api.ErrRange},
		{super.Super{Epoch: 1, Journal: 4, Bits: 8, Head: most, Next: 1}, 100, api.ErrRange},
		{super.Super{Epoch: 1, Journal: 4, Bits: 8, Head: 4095, Next: 1}, 4096, api.OK},
		{super.Super{Epoch: 1, Journal: 4, Bits: 8, Head: 4096, Next: 1}, 4096, api.ErrRange},
	} {
		if got := c.s.Check(c.sectors); got != c.want {
			t.Errorf("Check %d of %+v: %d, not %d", c.sectors, c.s, got, c.want)
		}
	}
}

// P7.1, K2: of several errors the first one, whichever apply together.
func TestCheckOrder(t *testing.T) {
	for _, epoch := range []uint32{0, 1, math.MaxUint32} {
		for _, next := range []uint32{0, 1, math.MaxUint32} {
			for _, journal := range []int{-1, 0, 3, 4, 5, 512, 513, math.MaxInt} {
				for _, bits := range []int{-1, 0, 1, 256, 257} {
					for _, sectors := range []int{math.MinInt, -1, 0, 37, 38, 39, 545, 546, 4096, 4097} {
						for _, head := range []int{-1, 0, 1, 5, 6, 7, 37, 38, 513, 514, 545, 546, 4095, 4096} {
							s := super.Super{Epoch: epoch, Journal: journal, Bits: bits, Head: head, Next: next}
							if got, want := s.Check(sectors), refused(s, sectors); got != want {
								t.Fatalf("Check %d of %+v: %d, not %d", sectors, s, got, want)
							}
						}
					}
				}
			}
		}
	}
}

// P7.1: Write lays the bytes that the document says into the slot of an odd or an even Epoch, and nothing elsewhere; they aren't sure.
func TestWriteBytes(t *testing.T) {
	for _, s := range []super.Super{
		good(1), good(2), good(3), good(4), good(0x01020304), good(0x01020305), good(math.MaxUint32), good(math.MaxUint32 - 1),
		{Epoch: 1, Journal: 4, Bits: 1, Next: 1},
		{Epoch: 2, Journal: 512, Bits: 256, Head: 4095, Next: math.MaxUint32},
		{Epoch: 256, Journal: 0x0102, Bits: 255, Head: 0x0304, Next: 0x05060708},
	} {
		d := disk.New(4096)
		was := all(t, d)
		if e := write(d, s); e != api.OK {
			t.Errorf("Write of %+v: %d", s, e)
			continue
		}
		slot := int(s.Epoch & 1)
		was[slot] = laid(s)
		if !slices.Equal(all(t, d), was) {
			t.Errorf("Write of %+v: % x", s, sector(t, d, slot))
		}
		if !slices.Equal(d.Loose(), []int{slot}) {
			t.Errorf("Write of %+v: loose %v", s, d.Loose())
		}
		d.Crash()
		none(t, "not sure", d, api.ErrForm)
	}
}

// P7.1: a super's bytes, written out.
func TestBytesWrittenOut(t *testing.T) {
	d := disk.New(4096)
	write(d, super.Super{Epoch: 0x0a0b0c0d, Journal: 0x0102, Bits: 0x0043, Head: 0x0506, Next: 0x0708090a})
	want := "\x0a\x0b\x0c\x0d\x00\x00\x00\x00\x0eSBAT\x01\x02\x00\x43\x05\x06\x07\x08\x09\x0a" + strings.Repeat("\x00", 33) + "\x0a\x0b\x0c\x0d\x00\x00\x00\x00"
	if got := sector(t, d, 1); got != want {
		t.Errorf("% x", got)
	}
}

// P7.1, K2: Write of what Check refuses is its error, of the disk's sectors, ahead of the disk's own, and changes nothing.
func TestWriteRefused(t *testing.T) {
	for _, n := range []int{0, 1, 2, 37, 38, 43, 44, 50, 51, 100, 4096} {
		for _, s := range []super.Super{
			{}, good(0), good(1), good(2), {Epoch: 1, Journal: 3, Bits: 8, Next: 1}, {Epoch: 1, Journal: 513, Bits: 8, Next: 1},
			{Epoch: 1, Journal: 4, Bits: 0, Next: 1}, {Epoch: 2, Journal: 4, Bits: 257, Next: 1}, {Epoch: 1, Journal: 4, Bits: 8},
			{Epoch: 1, Journal: 4, Bits: 8, Next: 1}, {Epoch: 1, Journal: 4, Bits: 8, Head: 5, Next: 1}, {Epoch: 1, Journal: 4, Bits: 8, Head: 100, Next: 1},
			{Epoch: 1, Journal: 512, Bits: 8, Next: 1}, {Epoch: 1, Journal: 4 + 65536, Bits: 8, Next: 1}, {Epoch: 1, Journal: 4, Bits: 8, Head: 65536 + 40, Next: 1},
		} {
			want := refused(s, n)
			d := disk.New(n)
			if e := write(d, s); e != want || want != api.OK && len(d.Loose()) != 0 {
				t.Errorf("Write on %d sectors of %+v: %d, not %d; loose %v", n, s, e, want, d.Loose())
			}
			if want == api.OK {
				want = api.ErrCut
			}
			d = cut(disk.New(n))
			if e := write(d, s); e != want || len(d.Loose()) != 0 {
				t.Errorf("Write on %d dead sectors of %+v: %d, not %d; loose %v", n, s, e, want, d.Loose())
			}
		}
	}
}

// P7.1: Write is one call of the disk's; with none that works the power is cut, and nothing has changed.
func TestWriteArmed(t *testing.T) {
	d := with(t, 100, laid(good(4)), laid(good(5)))
	d.Arm(1)
	if e := write(d, good(6)); e != api.OK || d.Dead() {
		t.Errorf("Write with one call left: %d", e)
	}
	if e := write(d, super.Super{}); e != api.ErrArg || d.Dead() {
		t.Errorf("Write that is refused: %d, dead %v", e, d.Dead())
	}
	if e := write(d, good(7)); e != api.ErrCut || !d.Dead() {
		t.Errorf("Write with none left: %d", e)
	}
	d.Crash(64, 64)
	reads(t, "behind it", d, good(6))
	if sector(t, d, 1) != laid(good(5)) {
		t.Error("Write that failed has changed its slot")
	}
}

// P7.1: Read of a disk with no sector, with one, with two, and with too few for any super.
func TestReadFewSectors(t *testing.T) {
	s := []string{laid(good(4)), laid(good(5)), laid(super.Super{Epoch: 6, Journal: 4, Bits: 8, Next: 1})}
	none(t, "no sector", disk.New(0), api.ErrForm)
	none(t, "no sector, no power", cut(disk.New(0)), api.ErrForm)
	for n := 1; n < 38; n++ {
		none(t, "noughts", disk.New(n), api.ErrForm)
		none(t, "noughts, no power", cut(disk.New(n)), api.ErrCut)
		none(t, "a super in slot 0", with(t, n, s[0]), api.ErrForm)
		none(t, "a small super in slot 0", with(t, n, s[2]), api.ErrForm)
		none(t, "a super, no power", cut(with(t, n, s[0])), api.ErrCut)
		if n > 1 {
			none(t, "two supers", with(t, n, s[0], s[1]), api.ErrForm)
			none(t, "two supers, no power", cut(with(t, n, s[0], s[1])), api.ErrCut)
		}
	}
	reads(t, "38 sectors", with(t, 38, s[2]), super.Super{Epoch: 6, Journal: 4, Bits: 8, Next: 1})
}

// P7.1: two slots, one of them, or neither with a super: the one of the greater Epoch.
func TestReadSlots(t *testing.T) {
	junk := []string{"", "junk", strings.Repeat("\xff", 64), frame(7, 3, "\x01record"), frame(8, 0, "SBAT")}
	for _, a := range junk {
		for _, b := range junk {
			none(t, "neither", with(t, 100, a, b), api.ErrForm)
		}
		for _, e := range []uint32{2, 4, 0xfffffffe} {
			reads(t, "slot 0 alone", with(t, 100, laid(good(e)), a), good(e))
			reads(t, "slot 1 alone", with(t, 100, a, laid(good(e+1))), good(e+1))
		}
	}
	for _, c := range [][2]uint32{
		{2, 1}, {2, 3}, {2, 5}, {4, 1}, {4, 3}, {4, 5}, {100, 1}, {256, 255}, {256, 257}, {0x10000, 0xffff}, {0x01000000, 0x00ffffff},
		{0x80000000, 0x7fffffff}, {0x80000000, 0x80000001}, {0xfffffffe, 1}, {2, 0xffffffff}, {0xfffffffe, 0xffffffff}, {0xfffffffe, 0xfffffffd},
	} {
		even, odd := good(c[0]), good(c[1])
		even.Head, even.Next, odd.Head, odd.Next = 0, 9, 99, 8
		want := even
		if c[1] > c[0] {
			want = odd
		}
		reads(t, "both", with(t, 100, laid(even), laid(odd)), want)
	}
}

// P7.1: what is there is read, sure or not; the power is none, and nothing is told.
func TestReadWhatIsThere(t *testing.T) {
	d := with(t, 100, laid(good(2)))
	write(d, good(3))
	reads(t, "not sure", d, good(3))
	d.Arm(0)
	reads(t, "armed", d, good(3))
	pack.Guard(d.Sync)
	none(t, "cut", d, api.ErrCut)
	d.Crash()
	reads(t, "behind a crash", d, good(2))
	if len(d.Loose()) != 0 {
		t.Errorf("Read has written: %v", d.Loose())
	}
}

// P7.1: a frame in the other one's slot is no super there.
func TestReadOtherSlot(t *testing.T) {
	for e := uint32(1); e < 20; e++ {
		own, other := int(e&1), int(1-e&1)
		d := disk.New(100)
		put(t, d, other, laid(good(e)))
		none(t, "in the other slot", d, api.ErrForm)
		put(t, d, own, laid(good(e)))
		reads(t, "in both", d, good(e))
		put(t, d, other, laid(good(e+2)))
		reads(t, "a later one in the other slot", d, good(e))
		for at := 2; at < 6; at++ {
			put(t, d, at, laid(good(e+uint32(at))))
		}
		reads(t, "others elsewhere", d, good(e))
	}
}

// P7.1: a stamp with Seq other than 0 is no super's.
func TestReadSeq(t *testing.T) {
	for _, seq := range []uint32{1, 2, 256, 0x80000000, math.MaxUint32} {
		for e := uint32(1); e < 5; e++ {
			d := disk.New(100)
			put(t, d, int(e&1), frame(e, seq, text(good(e))))
			none(t, "Seq", d, api.ErrForm)
		}
		d := with(t, 100, laid(good(2)), frame(3, seq, text(good(3))))
		reads(t, "Seq, beside one", d, good(2))
	}
}

// P7.1: a frame with more or fewer bytes than a super's, or with other ones at the front, is none.
func TestReadBytes(t *testing.T) {
	s := good(3)
	whole := text(s)
	beside := laid(good(2))
	bad := func(what, text string) {
		t.Helper()
		reads(t, what, with(t, 100, beside, frame(3, 0, text)), good(2))
		none(t, what, with(t, 100, "", frame(3, 0, text)), api.ErrForm)
	}
	for n := range len(whole) {
		bad("fewer", whole[:n])
		bad("fewer, at the front", whole[len(whole)-n:])
	}
	for n := len(whole) + 1; n <= 47; n++ {
		bad("more", whole+strings.Repeat("\x00", n-len(whole)))
		bad("more", whole+strings.Repeat("x", n-len(whole)))
		bad("more, at the front", strings.Repeat("S", n-len(whole))+whole)
	}
	for at := range 4 {
		for b := 1; b < 256; b++ {
			m := []byte(whole)
			m[at] ^= byte(b)
			bad("another mark", string(m))
		}
	}
	reads(t, "the bytes", with(t, 100, beside, frame(3, 0, whole)), s)
}

// P7.1: one that Check doesn't let through isn't there, of however great an Epoch.
func TestReadUnchecked(t *testing.T) {
	for _, s := range []super.Super{
		{Epoch: 9, Journal: 0, Bits: 8, Next: 1}, {Epoch: 9, Journal: 3, Bits: 8, Next: 1}, {Epoch: 9, Journal: 513, Bits: 8, Next: 1}, {Epoch: 9, Journal: 65535, Bits: 8, Next: 1},
		{Epoch: 9, Journal: 4, Bits: 0, Next: 1}, {Epoch: 9, Journal: 4, Bits: 257, Next: 1}, {Epoch: 9, Journal: 4, Bits: 8, Next: 0},
		{Epoch: 9, Journal: 67, Bits: 8, Next: 1}, {Epoch: 9, Journal: 4, Bits: 8, Head: 5, Next: 1}, {Epoch: 9, Journal: 4, Bits: 8, Head: 100, Next: 1}, {Epoch: 9, Journal: 4, Bits: 8, Head: 65535, Next: 1},
	} {
		none(t, "alone", with(t, 100, "", laid(s)), api.ErrForm)
		reads(t, "beside one", with(t, 100, laid(good(2)), laid(s)), good(2))
	}
	none(t, "Epoch 0", with(t, 100, laid(good(0))), api.ErrForm)
	reads(t, "Epoch 0, beside one", with(t, 100, laid(good(0)), laid(good(1))), good(1))
	edge := super.Super{Epoch: 9, Journal: 66, Bits: 8, Head: 99, Next: 1}
	reads(t, "at the edges", with(t, 100, "", laid(edge)), edge)
	none(t, "with a sector less", with(t, 99, "", laid(edge)), api.ErrForm)
}

// said: what Read must answer of two slots' bytes, by the document's words; false: none.
func said(slots [2]string, sectors int) (super.Super, bool) {
	var l []super.Super
	for at, b := range slots {
		s := super.Super{
			Epoch:   binary.BigEndian.Uint32([]byte(b)),
			Journal: int(binary.BigEndian.Uint16([]byte(b[13:]))),
			Bits:    int(binary.BigEndian.Uint16([]byte(b[15:]))),
			Head:    int(binary.BigEndian.Uint16([]byte(b[17:]))),
			Next:    binary.BigEndian.Uint32([]byte(b[19:])),
		}
		if b == laid(s) && int(s.Epoch&1) == at && refused(s, sectors) == api.OK {
			l = append(l, s)
		}
	}
	if len(l) == 0 {
		return super.Super{}, false
	}
	return slices.MaxFunc(l, func(a, b super.Super) int {
		if a.Epoch < b.Epoch {
			return -1
		}
		return 1
	}), true
}

// holds: Read answers what the slots' bytes say.
func holds(t *testing.T, what string, d *disk.Disk) {
	t.Helper()
	want, ok := said([2]string{sector(t, d, 0), sector(t, d, 1)}, d.Len())
	if ok {
		reads(t, what, d, want)
	} else {
		none(t, what, d, api.ErrForm)
	}
}

// P7.1: any byte that is spoilt, however.
func TestReadSpoilt(t *testing.T) {
	clean := with(t, 100, laid(good(4)), laid(good(5)))
	for at := range 2 {
		for by := range 64 {
			for b := range 256 {
				d := clean.Clone()
				pack.Guard(func() { d.Spoil(at, by, byte(b)) })
				holds(t, "spoilt", d)
				if t.Failed() {
					t.Fatalf("byte %d of slot %d, by %x", by, at, b)
				}
			}
		}
	}
}

// P7.1: noise, frames of noise, and supers of any numbers.
func TestReadNoise(t *testing.T) {
	next := noise(1)
	any := func() string {
		s := super.Super{Epoch: uint32(next(8)), Journal: next(70), Bits: next(260), Head: next(105), Next: uint32(next(4))}
		switch next(6) {
		case 0:
			return some(next, 64)
		case 1:
			return frame(s.Epoch, uint32(next(2)), some(next, next(48)))
		case 2:
			return frame(s.Epoch, 0, "SBAT"+some(next, 10))
		}
		return laid(s)
	}
	for range 20000 {
		holds(t, "noise", with(t, 100, any(), any()))
	}
}

// P7.2: what is written is read again, of any super that Check lets through.
func TestThereAndBack(t *testing.T) {
	next := noise(2)
	d := disk.New(4096)
	tries := []super.Super{
		{Epoch: 1, Journal: 4, Bits: 1, Next: 1}, {Epoch: 2, Journal: 512, Bits: 256, Head: 4095, Next: math.MaxUint32},
		{Epoch: 3, Journal: 512, Bits: 255, Head: 514, Next: 256}, {Epoch: 4, Journal: 4, Bits: 256, Head: 6, Next: 65536},
	}
	for e := uint32(5); e < 2000; e++ {
		s := super.Super{Epoch: e, Journal: 4 + next(509), Bits: 1 + next(256), Next: 1 + uint32(next(1<<31-1))*2}
		if next(4) > 0 {
			s.Head = s.Heap() + next(4096-s.Heap())
		}
		tries = append(tries, s)
	}
	for _, s := range tries {
		if e := write(d, s); e != api.OK {
			t.Fatalf("Write of %+v: %d", s, e)
		}
		reads(t, "there", d, s)
		pack.Guard(d.Sync)
		d.Crash()
		reads(t, "sure", d, s)
	}
}

// P7.2: on a device of each size there and back.
func TestThereAndBackSizes(t *testing.T) {
	for _, n := range []int{38, 39, 100, 545, 546, 4095, 4096} {
		for _, journal := range []int{4, 5, n - 34, 512} {
			for _, head := range []int{0, 2 + journal, n - 1} {
				s := super.Super{Epoch: 7, Journal: journal, Bits: 9, Head: head, Next: 3}
				d := disk.New(n)
				if refused(s, n) != api.OK {
					continue
				}
				if e := write(d, s); e != api.OK {
					t.Errorf("Write on %d of %+v: %d", n, s, e)
				}
				reads(t, "there", d, s)
			}
		}
	}
}

// turn: the next one is written over what stands in its slot; behind a crash with each number of bytes that is torn
// the one ahead is there, or, if its frame is whole, the next one.
func turn(t *testing.T, d *disk.Disk, ahead, next super.Super) {
	t.Helper()
	slot := int(next.Epoch & 1)
	reads(t, "ahead", d, ahead)
	for n := -1; n <= 65; n++ {
		c := d.Clone()
		if e := write(c, next); e != api.OK {
			t.Fatalf("Write of %+v: %d", next, e)
		}
		c.Arm(0)
		if e := pack.Guard(c.Sync); e != api.ErrCut {
			t.Fatalf("Sync: %d", e)
		}
		c.Crash(n)
		want := ahead
		if sector(t, c, slot) == laid(next) {
			want = next
		}
		if n >= 64 && want != next {
			t.Fatalf("all of it is there, but it isn't: % x", sector(t, c, slot))
		}
		reads(t, "torn", c, want)
		// Behind it the next one is written once more, over what was torn, and torn again.
		if n >= 0 && n < 64 && want == ahead {
			again(t, c, ahead, next)
		}
	}
}

// again: over what was torn the next one, or another one of its Epoch, is written, and torn at some bytes.
func again(t *testing.T, d *disk.Disk, ahead, next super.Super) {
	t.Helper()
	next.Next++
	for _, n := range []int{0, 8, 9, 14, 22, 23, 55, 56, 59, 60, 63, 64} {
		c := d.Clone()
		write(c, next)
		c.Crash(n)
		want := ahead
		if sector(t, c, int(next.Epoch&1)) == laid(next) {
			want = next
		}
		reads(t, "torn again", c, want)
	}
}

// P7.3: the power is cut while the next one is written over a super, noughts, noise, or a frame that is none.
func TestTurn(t *testing.T) {
	next := noise(3)
	for _, e := range []uint32{1, 2, 3, 4, 254, 255, 256, 257, 65535, 0x00ffffff, 0x7fffffff, 0x80000000, 0xfffffffd, 0xfffffffe} {
		ahead, behind := good(e), good(e+1)
		behind.Head, behind.Next = 77, 0x01020304
		olds := []string{"", strings.Repeat("\xff", 64), some(next, 64), frame(e, 0, text(good(e))), frame(e+1, 1, text(good(e+1))), frame(e-1, 0, "x"), laid(super.Super{Epoch: e + 3, Journal: 4, Bits: 8})}
		if e > 1 {
			was := good(e - 1)
			olds = append(olds, laid(was))
			was.Head, was.Next = 0, 4
			olds = append(olds, laid(was), laid(was)[:30]+strings.Repeat("\xff", 34))
		}
		if e > 3 {
			olds = append(olds, laid(good(e-3)))
		}
		for _, old := range olds {
			d := disk.New(100)
			put(t, d, int(e&1), laid(ahead))
			put(t, d, int((e+1)&1), old)
			turn(t, d, ahead, behind)
		}
	}
}

// P7.3: where Write itself cuts the power, the one ahead is there; so it is, whatever else is torn.
func TestTurnCutWithin(t *testing.T) {
	d := with(t, 100, laid(good(4)), laid(good(5)))
	d.Arm(0)
	if e := write(d, good(6)); e != api.ErrCut || !d.Dead() {
		t.Errorf("Write: %d", e)
	}
	d.Crash(64, 64, 64)
	reads(t, "cut within Write", d, good(5))
	for n := range 65 {
		c := d.Clone()
		pack.Guard(func() {
			c.Write(2, "journal")
			good(6).Write(c)
			c.Write(99, strings.Repeat("h", 64))
		})
		c.Crash(n, 64-n, n)
		want := good(5)
		if sector(t, c, 0) == laid(good(6)) {
			want = good(6)
		}
		reads(t, "others torn", c, want)
	}
}

// P7.3: turn by turn, with a cut at each; what was read is what the next turn goes on from.
func TestTurns(t *testing.T) {
	next := noise(4)
	for range 20 {
		d := disk.New(100)
		write(d, good(1))
		pack.Guard(d.Sync)
		now := good(1)
		for range 200 {
			s := super.Super{Epoch: now.Epoch + 1, Journal: 10, Bits: 16, Head: 12 + next(88), Next: uint32(1 + next(1000))}
			write(d, s)
			if next(3) == 0 {
				pack.Guard(d.Sync)
			}
			sure := len(d.Loose()) == 0
			d.Crash(next(66) - 1)
			got, e := read(d)
			if e != api.OK || got != s && (sure || got != now) {
				t.Fatalf("ahead %+v, next %+v, sure %v: %+v, %d", now, s, sure, got, e)
			}
			now = got
		}
	}
}

// K3, K4: Write and Check leave the super as it was, and Read answers the same again.
func TestAgain(t *testing.T) {
	s := good(6)
	d := with(t, 100, laid(good(4)), laid(good(5)))
	s.Check(10)
	write(d, s)
	write(cut(d.Clone()), s)
	if s != good(6) {
		t.Errorf("changed: %+v", s)
	}
	for range 3 {
		reads(t, "again", d, good(6))
	}
}
