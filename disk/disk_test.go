package disk_test

import (
	"math"
	"slices"
	"strings"
	"testing"

	"stereobate/api"
	"stereobate/disk"
	"stereobate/pack"
)

func write(d *disk.Disk, at int, s string) api.Errno {
	return pack.Guard(func() { d.Write(at, s) })
}

func sync(d *disk.Disk) api.Errno {
	return pack.Guard(d.Sync)
}

func read(d *disk.Disk, at int) (string, api.Errno) {
	s := ""
	e := pack.Guard(func() { s = d.Read(at) })
	return s, e
}

func spoil(d *disk.Disk, at, by int, with byte) api.Errno {
	return pack.Guard(func() { d.Spoil(at, by, with) })
}

// whole: a sector that begins so.
func whole(s string) string {
	return s + strings.Repeat("\x00", api.SectorLen-len(s))
}

// has: sector at is s, and noughts behind.
func has(t *testing.T, d *disk.Disk, at int, s string) {
	t.Helper()
	if got, e := read(d, at); e != api.OK || got != whole(s) {
		t.Errorf("Read %d: %d, %q, not %q", at, e, strings.TrimRight(got, "\x00"), s)
	}
}

// is: an error that must be.
func is(t *testing.T, what string, e, want api.Errno) {
	t.Helper()
	if e != want {
		t.Errorf("%s: %d, not %d", what, e, want)
	}
}

// loose: just these are.
func loose(t *testing.T, d *disk.Disk, want ...int) {
	t.Helper()
	if l := d.Loose(); !slices.Equal(l, want) {
		t.Errorf("Loose: %v, not %v", l, want)
	}
}

// dead: a disk of three sectors whose power is cut: "a" is sure in sector 0, "b" is there.
func dead(t *testing.T) *disk.Disk {
	t.Helper()
	d := disk.New(3)
	write(d, 0, "a")
	sync(d)
	write(d, 0, "b")
	d.Arm(0)
	is(t, "Sync that cuts", sync(d), api.ErrCut)
	if !d.Dead() {
		t.Fatal("Dead: false behind a cut")
	}
	return d
}

// P4.1: New, with sizes at their bounds and beyond: noughts, sure, with power.
func TestNew(t *testing.T) {
	for _, c := range []struct{ n, want int }{
		{math.MinInt, 0}, {-4097, 0}, {-1, 0}, {0, 0}, {1, 1}, {2, 2}, {100, 100}, {4095, 4095}, {4096, 4096}, {4097, 4096}, {math.MaxInt, 4096},
	} {
		d := disk.New(c.n)
		if d.Len() != c.want || d.Dead() || len(d.Loose()) != 0 {
			t.Errorf("New %d: %d sectors, dead %v, loose %v", c.n, d.Len(), d.Dead(), d.Loose())
		}
		for at := range c.want {
			has(t, d, at, "")
		}
		_, e := read(d, c.want)
		is(t, "Read at the end", e, api.ErrRange)
		is(t, "Write at the end", write(d, c.want, ""), api.ErrRange)
		d.Crash(64)
		is(t, "Sync", sync(d), api.OK)
	}
}

// P4.1: a new one isn't armed.
func TestNewIsNotArmed(t *testing.T) {
	d := disk.New(2)
	for k := range 20000 {
		if write(d, k%2, "x") != api.OK || sync(d) != api.OK {
			t.Fatalf("call %d fails", k)
		}
	}
}

// P4.1: Write fills up with noughts; the last one counts, and touches no other sector.
func TestWrite(t *testing.T) {
	d := disk.New(4)
	full := strings.Repeat("x", 63) + "y"
	for n := range api.SectorLen + 1 {
		is(t, "Write", write(d, 1, full), api.OK)
		has(t, d, 1, full)
		is(t, "Write", write(d, 1, full[:n]), api.OK)
		has(t, d, 1, full[:n])
		has(t, d, 0, "")
		has(t, d, 2, "")
	}
	for b := range 256 {
		s := string([]byte{byte(b), 0, byte(b)})
		is(t, "Write", write(d, 3, s), api.OK)
		has(t, d, 3, s)
	}
	is(t, "Write", write(d, 0, "first"), api.OK)
	has(t, d, 0, "first")
	has(t, d, 1, full)
}

// P4.1: the errors of Read and Write, at their bounds, and which one comes first; nothing changes.
func TestErrors(t *testing.T) {
	big := strings.Repeat("x", 65)
	for _, c := range []struct {
		at   int
		s    string
		want api.Errno
	}{
		{math.MinInt, "", api.ErrRange}, {-1, "", api.ErrRange}, {3, "", api.ErrRange}, {4096, "", api.ErrRange}, {math.MaxInt, "", api.ErrRange},
		{-1, big, api.ErrRange}, {3, big, api.ErrRange}, {0, big, api.ErrBig}, {2, big, api.ErrBig}, {2, strings.Repeat("x", 4096), api.ErrBig},
	} {
		d := disk.New(3)
		write(d, 2, "c")
		is(t, "Write", write(d, c.at, c.s), c.want)
		if c.want == api.ErrRange {
			s, e := read(d, c.at)
			is(t, "Read", e, api.ErrRange)
			if s != "" {
				t.Errorf("Read beside an error: %q", s)
			}
		}
		if d.Dead() {
			t.Errorf("Write %d: the power is cut", c.at)
		}
		has(t, d, 0, "")
		has(t, d, 2, "c")
		loose(t, d, 2)
	}
}

// P4.1: while the power is cut ErrCut comes ahead of all; nothing changes.
func TestErrorsWithoutPower(t *testing.T) {
	d := dead(t)
	for _, at := range []int{math.MinInt, -1, 0, 2, 3, math.MaxInt} {
		s, e := read(d, at)
		is(t, "Read", e, api.ErrCut)
		if s != "" {
			t.Errorf("Read beside an error: %q", s)
		}
		is(t, "Write", write(d, at, "q"), api.ErrCut)
		is(t, "Write of too much", write(d, at, strings.Repeat("q", 65)), api.ErrCut)
	}
	is(t, "Sync", sync(d), api.ErrCut)
	d.Arm(5)
	is(t, "Write behind Arm", write(d, 0, "q"), api.ErrCut)
	is(t, "Sync behind Arm", sync(d), api.ErrCut)
	_, e := read(d, 0)
	is(t, "Read behind Arm", e, api.ErrCut)
	if !d.Dead() || d.Len() != 3 {
		t.Errorf("Dead: %v, Len: %d", d.Dead(), d.Len())
	}
	loose(t, d, 0)
	d.Crash(64)
	has(t, d, 0, "b")
	has(t, d, 2, "")
}

// P4.1: Loose tells the sectors whose bytes aren't those that are sure, whatever was written; rising.
func TestLoose(t *testing.T) {
	d := disk.New(6)
	for _, at := range []int{4, 1, 5, 0} {
		write(d, at, "x")
	}
	loose(t, d, 0, 1, 4, 5)
	write(d, 4, "")
	loose(t, d, 0, 1, 5)
	is(t, "Sync", sync(d), api.OK)
	loose(t, d)
	write(d, 1, "x")
	write(d, 2, "")
	loose(t, d)
	write(d, 1, "y")
	loose(t, d, 1)
	write(d, 1, whole("x"))
	loose(t, d)
	write(d, 5, "x"+strings.Repeat("\x00", 62)+"z")
	loose(t, d, 5)
	l := d.Loose()
	l[0] = 3
	loose(t, d, 5)
}

// P4.1: Sync makes all sure.
func TestSync(t *testing.T) {
	d := disk.New(3)
	write(d, 0, "a")
	write(d, 1, "b")
	is(t, "Sync", sync(d), api.OK)
	write(d, 1, "B")
	d.Crash()
	has(t, d, 0, "a")
	has(t, d, 1, "b")
	has(t, d, 2, "")
	write(d, 2, "c")
	is(t, "Sync", sync(d), api.OK)
	is(t, "Sync once more", sync(d), api.OK)
	d.Crash()
	has(t, d, 0, "a")
	has(t, d, 2, "c")
}

// P4.1: so many calls of Write and Sync work; the next one, whichever, cuts.
func TestArm(t *testing.T) {
	for n := -2; n < 9; n++ {
		for kinds := range 1 << 9 {
			d := disk.New(1)
			d.Arm(n)
			for k := range 9 {
				e := api.OK
				if kinds>>k&1 == 1 {
					e = sync(d)
				} else {
					e = write(d, 0, "x")
				}
				want, cut := api.OK, k >= n
				if cut {
					want = api.ErrCut
				}
				if e != want || d.Dead() != cut {
					t.Fatalf("Arm %d, call %d of %b: %d, dead %v", n, k, kinds, e, d.Dead())
				}
			}
		}
	}
	for _, n := range []int{math.MinInt, -1, 0} {
		d := disk.New(1)
		d.Arm(n)
		if d.Dead() {
			t.Errorf("Arm %d cuts", n)
		}
		is(t, "Write", write(d, 0, "x"), api.ErrCut)
	}
	d := disk.New(1)
	d.Arm(math.MaxInt)
	is(t, "Write", write(d, 0, "x"), api.OK)
	is(t, "Sync", sync(d), api.OK)
}

// P4.1: the last Arm counts, whether more or less work by it.
func TestArmAgain(t *testing.T) {
	d := disk.New(1)
	d.Arm(0)
	d.Arm(2)
	is(t, "Write", write(d, 0, "a"), api.OK)
	d.Arm(1)
	is(t, "Write", write(d, 0, "b"), api.OK)
	d.Arm(5)
	d.Arm(0)
	is(t, "Write", write(d, 0, "c"), api.ErrCut)
	if !d.Dead() {
		t.Error("Dead: false")
	}
}

// P4.1: neither other calls nor calls that are refused use up what works yet; those that are refused don't cut.
func TestArmCountsWhatWorks(t *testing.T) {
	d := disk.New(2)
	d.Arm(2)
	idle := func() {
		for _, at := range []int{-1, 2} {
			is(t, "Write", write(d, at, "x"), api.ErrRange)
			is(t, "Write of too much", write(d, at, strings.Repeat("x", 65)), api.ErrRange)
			_, e := read(d, at)
			is(t, "Read", e, api.ErrRange)
			is(t, "Spoil", spoil(d, at, 0, 1), api.ErrRange)
		}
		is(t, "Write of too much", write(d, 1, strings.Repeat("x", 65)), api.ErrBig)
		is(t, "Spoil", spoil(d, 1, 64, 1), api.ErrArg)
		is(t, "Spoil", spoil(d, 1, 63, 0), api.OK)
		_, e := read(d, 1)
		is(t, "Read", e, api.OK)
		d.Loose()
		d.Len()
		d.Clone()
		if d.Dead() {
			t.Error("Dead: true ahead of the cut")
		}
	}
	for range 4 {
		idle()
	}
	is(t, "Write", write(d, 0, "x"), api.OK)
	idle()
	is(t, "Sync", sync(d), api.OK)
	idle()
	is(t, "Write", write(d, 0, "y"), api.ErrCut)
	d.Crash(64)
	has(t, d, 0, "x")
}

// P4.1: of a Write within which the power is cut nothing is there; what was written ahead of it is loose yet.
func TestCutWithinWrite(t *testing.T) {
	d := disk.New(3)
	write(d, 0, "a")
	write(d, 1, "b")
	sync(d)
	d.Arm(1)
	is(t, "Write", write(d, 0, "A"), api.OK)
	is(t, "Write that cuts", write(d, 1, "B"), api.ErrCut)
	if !d.Dead() {
		t.Error("Dead: false")
	}
	loose(t, d, 0)
	d.Crash(64, 64)
	has(t, d, 0, "A")
	has(t, d, 1, "b")
}

// P4.1: of a Sync within which the power is cut nothing is sure.
func TestCutWithinSync(t *testing.T) {
	d := disk.New(3)
	write(d, 0, "a")
	d.Arm(0)
	is(t, "Sync that cuts", sync(d), api.ErrCut)
	loose(t, d, 0)
	d.Crash()
	has(t, d, 0, "")
}

// P4.1: of each loose sector as many first bytes as its cut says; cuts may be fewer, or more, than there are.
func TestCrash(t *testing.T) {
	for _, c := range []struct {
		cuts []int
		want [3]string
	}{
		{nil, [3]string{"old0", "old2", "old4"}},
		{[]int{}, [3]string{"old0", "old2", "old4"}},
		{[]int{2}, [3]string{"NEd0", "old2", "old4"}},
		{[]int{0, 1}, [3]string{"old0", "Nld2", "old4"}},
		{[]int{4, 3, 2}, [3]string{"NEW0", "NEW2", "NEd4"}},
		{[]int{64, 0, 4}, [3]string{"NEW0BEHIND", "old2", "NEW4"}},
		{[]int{1, 2, 3, 64, 64, 64}, [3]string{"Nld0", "NEd2", "NEW4"}},
		{[]int{-1, math.MinInt, 65}, [3]string{"old0", "old2", "NEW4BEHIND"}},
		{[]int{math.MaxInt, 63, -64}, [3]string{"NEW0BEHIND", "NEW2BEHIND", "old4"}},
	} {
		d := disk.New(6)
		for at := range 6 {
			write(d, at, "old"+string(rune('0'+at)))
		}
		sync(d)
		for _, at := range []int{4, 0, 2} {
			write(d, at, "NEW"+string(rune('0'+at))+"BEHIND")
		}
		write(d, 3, "old3")
		was := slices.Clone(c.cuts)
		d.Crash(c.cuts...)
		if !slices.Equal(was, c.cuts) {
			t.Errorf("cuts are %v, not %v", c.cuts, was)
		}
		for k, s := range c.want {
			has(t, d, 2*k, s)
			has(t, d, 2*k+1, "old"+string(rune('1'+2*k)))
		}
		loose(t, d)
		d.Crash(64, 64, 64)
		for k, s := range c.want {
			has(t, d, 2*k, s)
		}
	}
}

// P4.1: each cut of a sector, over what is longer and over what is shorter.
func TestCuts(t *testing.T) {
	long := strings.Repeat("o", 64)
	for cut := range 65 {
		d := disk.New(2)
		write(d, 0, long)
		sync(d)
		write(d, 0, "new")
		write(d, 1, strings.Repeat("n", 64))
		d.Crash(cut, cut)
		has(t, d, 0, whole("new")[:cut]+long[cut:])
		has(t, d, 1, strings.Repeat("n", cut))
		loose(t, d)
	}
}

// P4.1: behind a Crash there is power, it isn't armed, and what is there is sure; whether it was cut ahead or not.
func TestBehindCrash(t *testing.T) {
	armed := disk.New(3)
	armed.Arm(0)
	spent := disk.New(3)
	spent.Arm(1)
	write(spent, 0, "z")
	for _, d := range []*disk.Disk{disk.New(3), armed, spent, dead(t)} {
		d.Crash()
		if d.Dead() {
			t.Error("Dead: true behind a Crash")
		}
		for range 100 {
			is(t, "Write", write(d, 1, "x"), api.OK)
			is(t, "Sync", sync(d), api.OK)
		}
		write(d, 1, "yy")
		d.Crash(1)
		d.Crash(64)
		has(t, d, 1, "y")
	}
	d := dead(t)
	d.Arm(7)
	d.Crash()
	for range 20 {
		is(t, "Write", write(d, 0, "x"), api.OK)
	}
}

// The document's first example.
func TestExample(t *testing.T) {
	d := disk.New(1)
	write(d, 0, "ab")
	sync(d)
	write(d, 0, "xyz")
	d.Crash(1)
	has(t, d, 0, "xb")
}

// P4.1: Spoil's errors, and which comes first; nothing changes.
func TestSpoilErrors(t *testing.T) {
	for _, d := range []*disk.Disk{disk.New(3), dead(t), disk.New(0)} {
		for _, at := range []int{math.MinInt, -1, d.Len(), math.MaxInt} {
			for _, by := range []int{-1, 0, 63, 64} {
				is(t, "Spoil", spoil(d, at, by, 1), api.ErrRange)
			}
		}
		for at := range d.Len() {
			for _, by := range []int{math.MinInt, -1, 64, math.MaxInt} {
				is(t, "Spoil", spoil(d, at, by, 1), api.ErrArg)
			}
		}
		d.Crash()
		for at := 1; at < d.Len(); at++ {
			has(t, d, at, "")
		}
	}
}

// P4.1: each byte of a sector, by each bit; of others none.
func TestSpoil(t *testing.T) {
	for by := range 64 {
		for bit := range 8 {
			d := disk.New(3)
			text := strings.Repeat("s", 64)
			write(d, 1, text)
			sync(d)
			is(t, "Spoil", spoil(d, 1, by, 1<<bit), api.OK)
			b := []byte(text)
			b[by] = 's' ^ 1<<bit
			has(t, d, 1, string(b))
			loose(t, d)
			d.Crash(64)
			has(t, d, 1, string(b))
			has(t, d, 0, "")
			has(t, d, 2, "")
			is(t, "Spoil back", spoil(d, 1, by, 1<<bit), api.OK)
			is(t, "Spoil by nothing", spoil(d, 1, by, 0), api.OK)
			has(t, d, 1, text)
		}
	}
}

// P4.1: of a loose sector both what is there and what is sure are spoilt; it stays loose.
func TestSpoilLoose(t *testing.T) {
	for _, c := range []struct {
		cut  int
		want string
	}{{0, "old\x01"}, {1, "Nld\x01"}, {3, "NEW\x01"}, {4, "NEWS"}, {64, "NEWS"}} {
		d := disk.New(1)
		write(d, 0, "old")
		sync(d)
		write(d, 0, "NEWR")
		is(t, "Spoil", spoil(d, 0, 3, 1), api.OK)
		has(t, d, 0, "NEWS")
		loose(t, d, 0)
		d.Crash(c.cut)
		has(t, d, 0, c.want)
	}
	d := disk.New(1)
	spoil(d, 0, 0, 'a')
	write(d, 0, "b")
	d.Crash()
	has(t, d, 0, "a")
}

// P4.1: Spoil needs no power.
func TestSpoilWithoutPower(t *testing.T) {
	d := dead(t)
	is(t, "Spoil", spoil(d, 0, 1, 'z'), api.OK)
	is(t, "Spoil", spoil(d, 1, 0, 'y'), api.OK)
	if !d.Dead() {
		t.Error("Dead: false behind Spoil")
	}
	loose(t, d, 0)
	c := d.Clone()
	d.Crash()
	has(t, d, 0, "az")
	has(t, d, 1, "y")
	c.Crash(64)
	has(t, c, 0, "bz")
	has(t, c, 1, "y")
}

// P4.1: a Clone is the same: what is there, what is sure, the power, how many calls work yet.
func TestClone(t *testing.T) {
	d := disk.New(4)
	write(d, 0, "a")
	sync(d)
	write(d, 0, "b")
	d.Arm(2)
	is(t, "Write", write(d, 1, "c"), api.OK)
	for range 3 {
		c := d.Clone()
		has(t, c, 0, "b")
		loose(t, c, 0, 1)
		if c.Len() != 4 || c.Dead() {
			t.Errorf("Len: %d, Dead: %v", c.Len(), c.Dead())
		}
		is(t, "Write", write(c, 2, "d"), api.OK)
		is(t, "Sync", sync(c), api.ErrCut)
		gone := c.Clone()
		if !gone.Dead() {
			t.Error("Dead: false, of a Clone of a dead one")
		}
		gone.Crash(0, 64)
		has(t, gone, 0, "a")
		has(t, gone, 1, "c")
		has(t, gone, 2, "")
		if !c.Dead() {
			t.Error("a Clone's Crash gives the other one power")
		}
	}
	has(t, d, 2, "")
	loose(t, d, 0, 1)
}

// P4.1: two Clones and what they are of go their own ways, whatever is done.
func TestTwoClones(t *testing.T) {
	d := disk.New(3)
	write(d, 0, "sure")
	sync(d)
	write(d, 1, "loose")
	a, b := d.Clone(), d.Clone()
	write(a, 0, "of a")
	write(b, 0, "of b")
	write(d, 2, "of d")
	sync(a)
	spoil(b, 1, 0, 'l'^'g')
	d.Arm(0)
	sync(d)
	if a.Dead() || b.Dead() || !d.Dead() {
		t.Errorf("Dead: %v, %v, %v", a.Dead(), b.Dead(), d.Dead())
	}
	loose(t, a)
	loose(t, b, 0, 1)
	loose(t, d, 1, 2)
	has(t, b, 0, "of b")
	has(t, b, 1, "goose")
	a.Crash()
	b.Crash(0, 1)
	d.Crash(64, 2)
	has(t, a, 0, "of a")
	has(t, a, 1, "loose")
	has(t, a, 2, "")
	has(t, b, 0, "sure")
	has(t, b, 1, "g")
	has(t, b, 2, "")
	has(t, d, 0, "sure")
	has(t, d, 1, "loose")
	has(t, d, 2, "of")
}

// K3: what Read answered stays, whatever is written then.
func TestReadStays(t *testing.T) {
	d := disk.New(1)
	write(d, 0, "a")
	s, _ := read(d, 0)
	write(d, 0, "b")
	spoil(d, 0, 0, 7)
	d.Crash(64)
	if s != whole("a") {
		t.Errorf("what was read is %q now", s)
	}
}
