package ring_test

import (
	"slices"
	"strings"
	"testing"

	"stereobate/api"
	"stereobate/disk"
	"stereobate/pack"
	"stereobate/ring"
)

// grounds: what may stand in a journal's sectors ahead: noughts, noise, elder journals; no frame of the epoch.
func grounds(t *testing.T, epoch uint32, from, n int) []*disk.Disk {
	t.Helper()
	next := noise(11)
	var l []*disk.Disk
	for kind := range 7 {
		d := disk.New(from + n + 1)
		for k := range n {
			s := ""
			switch kind {
			case 1:
				s = some(next, 64)
			case 2:
				s = frame(epoch-1, uint32(k+1), "\x01"+strings.Repeat("o", k%47))
			case 3:
				s = frame(epoch-1, uint32(k+1), "\x00"+some(next, 46))
			case 4:
				s = frame(epoch+1, uint32(k+1), "\x01later")
			case 5:
				s = frame(epoch^0x80000000, uint32(k+1), "\x01"+strings.Repeat("x", 46))
			case 6:
				s = strings.Repeat("\xff", 64)
			}
			put(t, d, from+k, s)
		}
		l = append(l, d)
	}
	return l
}

// kept: Scan answers first ones of all, least of them at least; how many.
func kept(t *testing.T, what string, d *disk.Disk, from, n int, epoch uint32, all []string, least int) int {
	t.Helper()
	got, e := scan(ring.New(d, from, n, epoch))
	if e != api.OK || len(got) < least || len(got) > len(all) || !slices.Equal(got, all[:len(got)]) {
		t.Fatalf("%s: Scan: %q, %d, of %q, %d at least", what, got, e, all, least)
	}
	return len(got)
}

// P8.2: the last frame that was written is torn behind each of its bytes: its record is there just if it is whole.
func TestKeptTornEach(t *testing.T) {
	next := noise(12)
	for _, d := range grounds(t, 5, 2, 8) {
		for _, size := range []int{0, 1, 45, 46, 47, 92, 93, 140} {
			all := []string{"sure", some(next, size)}
			c := d.Clone()
			r := ring.New(c, 2, 8, 5)
			adds(t, r, all[0])
			if e := pack.Guard(c.Sync); e != api.OK {
				t.Fatalf("Sync: %d", e)
			}
			adds(t, r, all[1])
			frames := laid(5, all...)
			for lost := 1; lost < len(frames); lost++ {
				for n := range 65 {
					x := c.Clone()
					cuts := slices.Repeat([]int{64}, len(frames)-1)
					cuts[lost-1] = n
					x.Crash(cuts...)
					got := kept(t, "torn", x, 2, 8, 5, all, 1)
					sector := ""
					pack.Guard(func() { sector = x.Read(2 + lost) })
					if whole := sector == frames[lost]; whole != (got == 2) {
						t.Fatalf("frame %d, torn at %d: whole %v, records %d", lost, n, whole, got)
					}
				}
			}
		}
	}
}

// P8.2: the power is cut within Append, at each of its frames; however the sectors are torn, the record isn't there, and those ahead are.
func TestKeptCutWithinAppend(t *testing.T) {
	next := noise(13)
	long := some(next, 200)
	for _, ground := range grounds(t, 7, 1, 12) {
		for works := range len(parts(long)) {
			for synced := range 4 {
				d := ground.Clone()
				r := ring.New(d, 1, 12, 7)
				all := []string{"one", "", some(next, 100)}
				for k, s := range all {
					if k == synced {
						pack.Guard(d.Sync)
					}
					adds(t, r, s)
				}
				if synced == 3 {
					pack.Guard(d.Sync)
				}
				d.Arm(works)
				if ok, e := add(r, long); ok || e != api.ErrCut || !d.Dead() {
					t.Fatalf("Append with %d calls: %v, %d", works, ok, e)
				}
				for range 30 {
					x := d.Clone()
					var cuts []int
					for range 12 {
						cuts = append(cuts, []int{0, 64, 64, next(65)}[next(4)])
					}
					x.Crash(cuts...)
					kept(t, "cut", x, 1, 12, 7, all, synced)
				}
				x := d.Clone()
				x.Crash(slices.Repeat([]int{64}, 12)...)
				if got := kept(t, "nothing torn", x, 1, 12, 7, all, 3); got != 3 {
					t.Errorf("nothing torn: %d records", got)
				}
			}
		}
	}
}

// P8.2: any appends and Syncs, a cut anywhere, anything torn; behind it a new epoch over what is left.
func TestKept(t *testing.T) {
	next := noise(14)
	for range 60 {
		d := disk.New(40)
		for epoch := uint32(1); epoch < 40; epoch++ {
			r := ring.New(d, 2, 36, epoch)
			var all []string
			sure := 0
			d.Arm(next(50))
			for range next(40) {
				if next(5) == 0 {
					if pack.Guard(d.Sync) != api.OK {
						break
					}
					sure = len(all)
					continue
				}
				s := some(next, next(60)*next(4))
				ok, e := add(r, s)
				if e != api.OK {
					break
				}
				if ok {
					all = append(all, s)
				}
			}
			var cuts []int
			for range 40 {
				cuts = append(cuts, []int{0, 64, 64, 64, next(65)}[next(5)])
			}
			d.Crash(cuts...)
			kept(t, "any calls", d, 2, 36, epoch, all, sure)
		}
	}
}

// P8.2: behind a Sync all are there, whatever the crash; without one none has to be.
func TestKeptSync(t *testing.T) {
	next := noise(15)
	for _, d := range grounds(t, 3, 0, 20) {
		var all []string
		r := ring.New(d, 0, 20, 3)
		for range 6 {
			s := some(next, next(140))
			adds(t, r, s)
			lost := d.Clone()
			lost.Crash()
			if got := kept(t, "not synced", lost, 0, 20, 3, append(slices.Clone(all), s), len(all)); got != len(all) {
				t.Errorf("of what is lost: %d records, not %d", got, len(all))
			}
			all = append(all, s)
			pack.Guard(d.Sync)
			d.Crash()
			if got := kept(t, "synced", d, 0, 20, 3, all, len(all)); got != len(all) {
				t.Errorf("synced: %d", got)
			}
		}
	}
}
