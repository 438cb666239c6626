package ring_test

import (
	"encoding/binary"
	"math"
	"slices"
	"strings"
	"testing"

	"stereobate/api"
	"stereobate/disk"
	"stereobate/pack"
	"stereobate/ring"
)

// noise answers numbers below n, the same ones each time.
func noise(seed uint64) func(n int) int {
	return func(n int) int {
		seed = seed*6364136223846793005 + 1442695040888963407
		return int((seed >> 33) % uint64(n))
	}
}

// some: so many bytes of noise.
func some(next func(int) int, n int) string {
	b := make([]byte, n)
	for i := range b {
		b[i] = byte(next(256))
	}
	return string(b)
}

// frame: by the document's words, byte by byte, at its places.
func frame(epoch, seq uint32, text string) string {
	b := make([]byte, 64)
	for _, at := range []int{0, 56} {
		binary.BigEndian.PutUint32(b[at:], epoch)
		binary.BigEndian.PutUint32(b[at+4:], seq)
	}
	b[8] = byte(len(text))
	copy(b[9:56], text)
	return string(b)
}

// parts: what a record's frames bear, by the document's words.
func parts(record string) []string {
	var l []string
	for ; len(record) > 46; record = record[46:] {
		l = append(l, "\x00"+record[:46])
	}
	return append(l, "\x01"+record)
}

// laid: the sectors of a journal with these records.
func laid(epoch uint32, records ...string) []string {
	var l []string
	for _, r := range records {
		for _, p := range parts(r) {
			l = append(l, frame(epoch, uint32(len(l)+1), p))
		}
	}
	return l
}

// put: sectors as others might write them, from one on, sure.
func put(t *testing.T, d *disk.Disk, from int, sectors ...string) {
	t.Helper()
	e := pack.Guard(func() {
		for i, s := range sectors {
			d.Write(from+i, s)
		}
		d.Sync()
	})
	if e != api.OK {
		t.Fatalf("Write: %d", e)
	}
}

// all: what is there, sector by sector.
func all(t *testing.T, d *disk.Disk) []string {
	t.Helper()
	var l []string
	e := pack.Guard(func() {
		for at := range d.Len() {
			l = append(l, d.Read(at))
		}
	})
	if e != api.OK {
		t.Fatalf("Read: %d", e)
	}
	return l
}

func add(r *ring.Ring, text string) (bool, api.Errno) {
	ok := false
	e := pack.Guard(func() { ok = r.Append(text) })
	return ok, e
}

func scan(r *ring.Ring) ([]string, api.Errno) {
	var l []string
	e := pack.Guard(func() { l = r.Scan() })
	return l, e
}

// adds: each one has room.
func adds(t *testing.T, r *ring.Ring, records ...string) {
	t.Helper()
	for _, s := range records {
		left := r.Left()
		if ok, e := add(r, s); !ok || e != api.OK {
			t.Fatalf("Append of %d bytes: %v, %d", len(s), ok, e)
		}
		if want := left - len(parts(s)); r.Left() != want {
			t.Errorf("Left behind %d bytes: %d, not %d", len(s), r.Left(), want)
		}
	}
}

// has: just these records are there.
func has(t *testing.T, what string, r *ring.Ring, want ...string) {
	t.Helper()
	if got, e := scan(r); e != api.OK || !slices.Equal(got, want) {
		t.Errorf("%s: Scan: %q, %d, not %q", what, got, e, want)
	}
}

// cut: the power of a disk is cut.
func cut(d *disk.Disk) *disk.Disk {
	d.Arm(0)
	pack.Guard(d.Sync)
	return d
}

// P8.1: the limit, and Cost at its edges; the document's example among them.
func TestCost(t *testing.T) {
	if ring.Part != 46 {
		t.Errorf("Part: %d", ring.Part)
	}
	for size, want := range map[int]int{
		math.MinInt: 1, -47: 1, -46: 1, -1: 1, 0: 1, 1: 1, 45: 1, 46: 1, 47: 2, 91: 2, 92: 2, 93: 3, 138: 3, 139: 4,
		math.MaxInt32: 46684428, math.MaxInt: 200508087757712518, math.MaxInt - 25: 200508087757712517, math.MaxInt - 24: 200508087757712518,
	} {
		if got := ring.Cost(size); got != want {
			t.Errorf("Cost %d: %d, not %d", size, got, want)
		}
	}
	for size := range 5000 {
		if got, want := ring.Cost(size), len(parts(strings.Repeat("x", size))); got != want {
			t.Errorf("Cost %d: %d, not %d", size, got, want)
		}
	}
}

// P8.1: a journal of n below 0, and of no sector: it has no room, and no record, with power or without.
func TestNoSector(t *testing.T) {
	for _, n := range []int{math.MinInt, -2, -1, 0} {
		for _, d := range []*disk.Disk{disk.New(0), disk.New(5), cut(disk.New(0)), cut(disk.New(5))} {
			for _, from := range []int{0, d.Len()} {
				r := ring.New(d, from, n, 3)
				if r.Left() != 0 {
					t.Errorf("Left of %d: %d", n, r.Left())
				}
				for _, s := range []string{"", "a", strings.Repeat("a", 47)} {
					if ok, e := add(r, s); ok || e != api.OK || r.Left() != 0 {
						t.Errorf("Append to %d: %v, %d, left %d", n, ok, e, r.Left())
					}
				}
				has(t, "no sector", r)
				if len(d.Loose()) != 0 {
					t.Errorf("written: %v", d.Loose())
				}
			}
		}
	}
}

// P8.1: New has all its room, and writes nothing.
func TestNew(t *testing.T) {
	for _, n := range []int{1, 2, 6, 512, 4096} {
		d := disk.New(4096)
		r := ring.New(d, 4096-n, n, 1)
		if r.Left() != n || len(d.Loose()) != 0 {
			t.Errorf("New of %d: left %d, loose %v", n, r.Left(), d.Loose())
		}
		has(t, "new", r)
	}
	d := disk.New(10)
	put(t, d, 2, laid(7, "old", "older")...)
	if r := ring.New(d, 2, 8, 7); r.Left() != 8 {
		t.Errorf("Left of a journal whose frames others wrote: %d", r.Left())
	}
}

// P8.1: Append lays the bytes that the document says, from the journal's first sector on, not sure, and nothing elsewhere.
func TestAppendBytes(t *testing.T) {
	next := noise(1)
	for _, epoch := range []uint32{0, 1, 0x01020304, math.MaxUint32} {
		for _, sizes := range [][]int{{0}, {1}, {45}, {46}, {47}, {92}, {93}, {500}, {0, 0, 0}, {46, 47, 0, 1, 92, 93, 46}, {138, 139, 3}} {
			var records []string
			for _, n := range sizes {
				records = append(records, some(next, n))
			}
			d := disk.New(30)
			want := all(t, d)
			adds(t, ring.New(d, 3, 25, epoch), records...)
			frames := laid(epoch, records...)
			copy(want[3:], frames)
			if !slices.Equal(all(t, d), want) {
				t.Errorf("Append of %v: %q", sizes, all(t, d))
			}
			if l := d.Loose(); len(l) != len(frames) || l[0] != 3 || l[len(l)-1] != 2+len(frames) {
				t.Errorf("Append of %v: loose %v", sizes, l)
			}
			has(t, "appended", ring.New(d, 3, 25, epoch), records...)
		}
	}
}

// P8.1: a record's sectors, written out.
func TestBytesWrittenOut(t *testing.T) {
	d := disk.New(4)
	adds(t, ring.New(d, 1, 3, 0x0a0b0c0d), strings.Repeat("x", 46)+"yz", "")
	s := "\x0a\x0b\x0c\x0d\x00\x00\x00"
	want := []string{
		strings.Repeat("\x00", 64),
		s + "\x01\x2f\x00" + strings.Repeat("x", 46) + s + "\x01",
		s + "\x02\x03\x01yz" + strings.Repeat("\x00", 44) + s + "\x02",
		s + "\x03\x01\x01" + strings.Repeat("\x00", 46) + s + "\x03",
	}
	if got := all(t, d); !slices.Equal(got, want) {
		t.Errorf("%q", got)
	}
}

// P8.1: a record without bytes, of Part bytes, of one more, one behind the other and alone; what they say makes no odds.
func TestThereAndBack(t *testing.T) {
	next := noise(2)
	for n := range 300 {
		for _, s := range []string{some(next, n), strings.Repeat("\x00", n), strings.Repeat("\x01", n), strings.Repeat("\xff", n)} {
			d := disk.New(20)
			r := ring.New(d, 0, 20, 5)
			adds(t, r, s)
			has(t, "alone", r, s)
			adds(t, r, "", s, "end")
			has(t, "behind each other", r, s, "", s, "end")
		}
	}
	d := disk.New(4096)
	long := some(next, 4096*46)
	adds(t, ring.New(d, 0, 4096, 6), long)
	has(t, "all of a device", ring.New(d, 0, 4096, 6), long)
}

// P8.1: a journal at a device's front and at its end, up to its last sector.
func TestPlaces(t *testing.T) {
	for _, c := range [][2]int{{0, 1}, {0, 8}, {7, 1}, {2, 6}, {3, 3}} {
		d := disk.New(8)
		r := ring.New(d, c[0], c[1], 5)
		var records []string
		for k := range c[1] {
			records = append(records, strings.Repeat("r", k))
		}
		adds(t, r, records...)
		has(t, "full", r, records...)
		if l := d.Loose(); r.Left() != 0 || len(l) != c[1] || l[0] != c[0] {
			t.Errorf("journal %v: left %d, loose %v", c, r.Left(), l)
		}
	}
}

// P8.1: Append without room is false, and nothing is done; what has room yet is appended behind it.
func TestNoRoom(t *testing.T) {
	for n := 1; n < 6; n++ {
		for used := range n + 1 {
			d := disk.New(8)
			r := ring.New(d, 1, n, 5)
			adds(t, r, slices.Repeat([]string{"u"}, used)...)
			was := all(t, d)
			least := (n-used)*46 + 1
			if n == used {
				least = 0
			}
			for _, size := range []int{least, least + 1, least + 46, 1000, 1 << 20} {
				d.Arm(0)
				if ok, e := add(r, strings.Repeat("x", size)); ok || e != api.OK || r.Left() != n-used || d.Dead() {
					t.Errorf("Append of %d bytes to %d of %d: %v, %d, left %d", size, used, n, ok, e, r.Left())
				}
			}
			if !slices.Equal(all(t, d), was) {
				t.Errorf("Append without room wrote: %q", all(t, d))
			}
			if n > used {
				d.Arm(n - used)
				adds(t, r, strings.Repeat("y", least-1))
			}
			if r.Left() != 0 {
				t.Errorf("Left: %d", r.Left())
			}
		}
	}
}

// P8.1, K2: the disk's errors, behind the question whether there is room; nothing was appended beside one.
func TestNoPower(t *testing.T) {
	d := disk.New(8)
	r := ring.New(d, 1, 4, 5)
	adds(t, r, "one")
	cut(d)
	if ok, e := add(r, strings.Repeat("x", 46*3+1)); ok || e != api.OK {
		t.Errorf("Append without room: %v, %d", ok, e)
	}
	if ok, e := add(r, "two"); ok || e != api.ErrCut || r.Left() != 3 {
		t.Errorf("Append: %v, %d, left %d", ok, e, r.Left())
	}
	if l, e := scan(r); l != nil || e != api.ErrCut {
		t.Errorf("Scan: %q, %d", l, e)
	}
	d.Crash(64)
	has(t, "with power", r, "one")
}

// P8.1: Append takes as many calls of the disk's as it has frames, and doesn't sync.
func TestAppendArmed(t *testing.T) {
	for size := range 200 {
		cost := len(parts(strings.Repeat("x", size)))
		for works := range cost + 2 {
			d := disk.New(8)
			r := ring.New(d, 1, 7, 5)
			d.Arm(works)
			ok, e := add(r, strings.Repeat("x", size))
			if works >= cost && (!ok || e != api.OK || d.Dead() || r.Left() != 7-cost) {
				t.Errorf("Append of %d bytes with %d calls: %v, %d, left %d", size, works, ok, e, r.Left())
			}
			if works < cost && (ok || e != api.ErrCut || !d.Dead() || r.Left() != 7) {
				t.Errorf("Append of %d bytes with %d calls: %v, %d, left %d", size, works, ok, e, r.Left())
			}
			if len(d.Loose()) != min(works, cost) {
				t.Errorf("Append of %d bytes with %d calls: loose %v", size, works, d.Loose())
			}
		}
	}
}

// P8.1: Scan of sectors that others wrote ends ahead of the first that isn't a frame of this epoch, in its place, with a byte 0 or 1 first.
func TestScanEnds(t *testing.T) {
	const epoch = 9
	good := laid(epoch, "one", "two", "three", "four")
	torn := func(n int) string { return frame(epoch, 3, "\x01three")[:n] + frame(epoch-1, 3, "\x01other")[n:] }
	for what, bad := range map[string]string{
		"noughts":               "",
		"noise":                 some(noise(3), 64),
		"an epoch ahead":        frame(epoch-1, 3, "\x01three"),
		"an epoch behind":       frame(epoch+1, 3, "\x01three"),
		"epoch 0":               frame(0, 3, "\x01three"),
		"the number ahead":      frame(epoch, 2, "\x01three"),
		"the number behind":     frame(epoch, 4, "\x01three"),
		"number 0":              frame(epoch, 0, "\x01three"),
		"its sector's number":   frame(epoch, 4+1, "\x01three"),
		"no byte":               frame(epoch, 3, ""),
		"first a byte 2":        frame(epoch, 3, "\x02three"),
		"first a byte 2, alone": frame(epoch, 3, "\x02"),
		"first a byte 255":      frame(epoch, 3, "\xffthree"),
		"first a byte 128":      frame(epoch, 3, "\x80"),
		"first a byte '1'":      frame(epoch, 3, "1three"),
		"one more than Room":    frame(epoch, 3, "\x01"+strings.Repeat("x", 47))[:56] + frame(epoch, 3, "")[56:],
		"a byte behind all":     frame(epoch, 3, "\x01three")[:55] + "x" + frame(epoch, 3, "")[56:],
		"torn at the stamp":     torn(4),
		"torn within":           torn(12),
		"torn at the end":       torn(59),
	} {
		d := disk.New(10)
		put(t, d, 2, good...)
		has(t, "ahead of it", ring.New(d, 2, 6, epoch), "one", "two", "three", "four")
		put(t, d, 4, bad)
		has(t, what, ring.New(d, 2, 6, epoch), "one", "two")
	}
}

// P8.1: the first byte, whichever: 0 and 1 alone say something.
func TestScanFirstByte(t *testing.T) {
	for b := range 256 {
		d := disk.New(4)
		put(t, d, 0, frame(3, 1, "\x01a"), frame(3, 2, string([]byte{byte(b)})+"b"), frame(3, 3, "\x01c"))
		want := []string{"a"}
		switch b {
		case 0:
			want = append(want, "bc")
		case 1:
			want = append(want, "b", "c")
		}
		has(t, "first byte", ring.New(d, 0, 4, 3), want...)
	}
}

// P8.1: however many bytes stand behind a byte 0 or 1, they are the record's, one frame's behind the other's.
func TestScanShortParts(t *testing.T) {
	next := noise(4)
	for range 500 {
		d := disk.New(40)
		var frames, records []string
		record := ""
		for k := range next(40) {
			part := some(next, next(47))
			record += part
			first := "\x00"
			if next(3) == 0 {
				first = "\x01"
				records = append(records, record)
				record = ""
			}
			frames = append(frames, frame(8, uint32(k+1), first+part))
		}
		put(t, d, 0, frames...)
		has(t, "any parts", ring.New(d, 0, 40, 8), records...)
		// What is appended to a Ring that nothing was appended to stands at the front, whatever others wrote.
		adds(t, ring.New(d, 0, 40, 8), "first")
		if got, e := scan(ring.New(d, 0, 40, 8)); e != api.OK || got[0] != "first" {
			t.Errorf("Scan: %q, %d", got, e)
		}
	}
}

// P8.1: a record whose last frame is wanting isn't answered: it is beyond the journal, or lost.
func TestScanNoLastFrame(t *testing.T) {
	long := strings.Repeat("abc", 50)
	frames := laid(6, "one", long, "two")
	for n := range len(frames) + 1 {
		d := disk.New(20)
		put(t, d, 4, frames...)
		want := []string{}
		for _, c := range []struct {
			n int
			s string
		}{{1, "one"}, {5, long}, {6, "two"}} {
			if n >= c.n {
				want = append(want, c.s)
			}
		}
		has(t, "beyond the journal", ring.New(d, 4, n, 6), want...)
		if n < len(frames) {
			put(t, d, 4+n, "")
			has(t, "lost", ring.New(d, 4, 10, 6), want...)
		}
	}
	d := disk.New(4)
	put(t, d, 0, frame(6, 1, "\x00"), frame(6, 2, "\x00"), frame(6, 3, "\x00a"), frame(6, 4, "\x00b"))
	has(t, "no last frame at all", ring.New(d, 0, 4, 6))
	put(t, d, 3, frame(6, 4, "\x01"))
	has(t, "a last frame without bytes", ring.New(d, 0, 4, 6), "a")
}

// P8.1: frames beyond the journal's sectors, and ahead of them, are none of its.
func TestScanWithin(t *testing.T) {
	d := disk.New(10)
	put(t, d, 0, frame(4, 1, "\x01x"), frame(4, 2, "\x01y"), frame(4, 1, "\x01a"), frame(4, 2, "\x01b"), frame(4, 3, "\x01c"), frame(4, 4, "\x01d"))
	has(t, "two sectors", ring.New(d, 2, 2, 4), "a", "b")
	has(t, "all sectors", ring.New(d, 2, 8, 4), "a", "b", "c", "d")
	has(t, "from the front", ring.New(d, 0, 2, 4), "x", "y")
	has(t, "a sector on", ring.New(d, 3, 2, 4))
}

// P8.1: what was appended to this Ring doesn't matter for Scan, nor does Scan for what is appended.
func TestScanWhoever(t *testing.T) {
	d := disk.New(10)
	a, b := ring.New(d, 2, 6, 4), ring.New(d, 2, 6, 4)
	adds(t, a, "one", "two", "three")
	has(t, "the other Ring", b, "one", "two", "three")
	adds(t, b, "new")
	has(t, "the first Ring", a, "new", "two", "three")
	if a.Left() != 3 || b.Left() != 5 {
		t.Errorf("Left: %d, %d", a.Left(), b.Left())
	}
	adds(t, a, "four")
	has(t, "both", b, "new", "two", "three", "four")
	put(t, d, 2, "")
	has(t, "wiped", a)
	if a.Left() != 2 {
		t.Errorf("Left: %d", a.Left())
	}
}

// P8.1: an elder journal's frames say nothing in a new one, as far as it goes over them, and behind.
func TestNewEpoch(t *testing.T) {
	d := disk.New(8)
	for epoch := uint32(1); epoch < 50; epoch++ {
		r := ring.New(d, 1, 6, epoch)
		has(t, "new", r)
		var records []string
		for k := range int(epoch) % 5 {
			records = append(records, strings.Repeat("r", k*20))
		}
		adds(t, r, records...)
		has(t, "appended", ring.New(d, 1, 6, epoch), records...)
		pack.Guard(d.Sync)
	}
}

// K3, K4: what Scan answered stays, and shares nothing with what it answers again; Scan writes nothing.
func TestScanAgain(t *testing.T) {
	d := disk.New(8)
	r := ring.New(d, 0, 8, 4)
	adds(t, r, strings.Repeat("a", 60), "b", strings.Repeat("c", 60))
	pack.Guard(d.Sync)
	first, _ := scan(r)
	was := slices.Clone(first)
	again, _ := scan(r)
	again[0] = "changed"
	put(t, d, 0, "")
	has(t, "wiped", r)
	if !slices.Equal(first, was) || len(was) != 3 {
		t.Errorf("Scan: %q, then %q", was, first)
	}
	if len(d.Loose()) != 0 {
		t.Errorf("Scan wrote: %v", d.Loose())
	}
}
