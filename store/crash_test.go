package store_test

import (
	"slices"
	"testing"

	"stereobate/api"
	"stereobate/pack"
)

// lived: a store with some checkpoints behind it, in as little room as it takes, so that sectors are used again.
func lived(t *testing.T) *box {
	t.Helper()
	b := newBox(t, 110, 4, 256)
	b.made(b.s.Create(40))
	b.fill(1, 0, 20, 1)
	b.commit()
	b.made(b.s.Snapshot(1))
	b.fill(1, 4, 8, 2)
	b.commit()
	b.made(b.s.Clone(2))
	b.fill(3, 30, 5, 3)
	b.commit()
	return b
}

// changes: calls that let go of what the last checkpoint has, and put others in its place.
func (b *box) changes() {
	s := b.s
	s.Write(1, 6, some(noise(4), 9*64))
	s.Delete(2)
	s.Write(3, 0, some(noise(5), 20*64))
	s.Trim(1, 0, 30)
	s.Create(10)
	s.Write(4, 0, some(noise(6), 10*64))
	s.Resize(3, 13)
	s.Write(4, 0, some(noise(1), 4*64))
	s.Snapshot(4)
	s.Delete(1)
	s.Write(3, 0, some(noise(7), 13*64))
}

// P18.2: whatever is done with the volumes behind a Commit, and at whichever write the power is cut: they are as
// they were at that Commit, whatever is torn.
func TestCutWithinCalls(t *testing.T) {
	next := noise(21)
	d := lived(t).d
	for n := 0; ; n++ {
		b := over(t, d.Clone())
		was, has := b.view(), b.held()
		b.d.Arm(n)
		b.changes()
		dead := b.d.Dead()
		l := b.d.Loose()
		for i := range 12 {
			cuts := make([]int, len(l))
			for k := range cuts {
				cuts[k] = []int{0, 64, 64, next(65)}[(next(4)+i)%4]
			}
			if i < 2 {
				cuts = slices.Repeat([]int{64 * i}, len(l))
			}
			a := b.again(cuts...)
			a.is("calls that were cut", was)
			a.holds("calls that were cut", has)
			a.settled()
		}
		if !dead {
			if n < 60 {
				t.Errorf("%d writes alone", n)
			}
			return
		}
	}
}

// P18.2: within the next Commit, at each of its calls of the disk: each loose sector is lost, or kept, or torn,
// while the others are lost, or kept; the super, which is the only one in its turn, behind each of its bytes.
func TestCutWithinCommit(t *testing.T) {
	d := lived(t).d
	for n := 0; ; n++ {
		b := over(t, d.Clone())
		was, has := b.view(), b.held()
		b.changes()
		now := b.view()
		b.d.Arm(n)
		e := pack.Guard(b.s.Commit)
		if e == api.OK {
			b.settled()
			b.again().is("Commit", now)
			return
		}
		l, turned := b.d.Loose(), 0
		for _, cuts := range tears(len(l)) {
			a := b.again(cuts...)
			a.settled()
			if a.s.Super.Epoch == b.s.Super.Epoch {
				a.is("as it was", was)
				a.holds("as it was", has)
			} else {
				a.is("as it is", now)
				turned++
			}
		}
		if super := len(l) == 1 && l[0] < 2; super != (turned > 0) {
			t.Errorf("with %d calls: %v are loose, %d times as it is", n, l, turned)
		}
	}
}

// tears: so many loose sectors, each of them torn in its turn.
func tears(loose int) [][]int {
	l := [][]int{nil}
	step := 1
	if loose > 1 {
		step = 16
	}
	for which := range loose {
		for _, others := range []int{0, 64} {
			for at := 0; at <= 64; at += step {
				cuts := slices.Repeat([]int{others}, loose)
				cuts[which] = at
				l = append(l, cuts)
			}
		}
	}
	return l
}

// P18.2: the super is torn, and the next Commit, of the same epoch, is torn as well: the one ahead is there, or
// that one, whole.
func TestTornTwice(t *testing.T) {
	for _, commits := range []int{0, 1, 2} {
		d := lived(t).d
		b := over(t, d)
		for range commits {
			b.commit()
		}
		was := b.view()
		for one := 0; one <= 64; one += 3 {
			c := over(t, b.d.Clone())
			c.made(c.s.Clone(1))
			c = c.cutAtSuper(one)
			if c.s.Super.Epoch != b.s.Super.Epoch {
				continue
			}
			c.is("torn", was)
			c.works(c.s.Delete(3))
			c.made(c.s.Create(9))
			now := c.view()
			for two := range 65 {
				x := over(t, c.d.Clone())
				x.works(x.s.Delete(3))
				x.made(x.s.Create(9))
				x = x.cutAtSuper(two)
				x.settled()
				if x.s.Super.Epoch == b.s.Super.Epoch {
					x.is("torn twice", was)
				} else {
					x.is("torn twice", now)
				}
			}
		}
	}
}

// cutAtSuper: the power is cut within the last Sync of a Commit, and so many bytes of the super are there.
func (b *box) cutAtSuper(bytes int) *box {
	b.t.Helper()
	b.d.Arm(len(b.s.Entries()) + 2)
	if e := pack.Guard(b.s.Commit); e != api.ErrCut || len(b.d.Loose()) != 1 {
		b.t.Fatalf("Commit: %d, %v are loose", e, b.d.Loose())
	}
	return b.again(bytes)
}

// P18.2: a cut again and again, with no Commit that comes to its end: the volumes stay, and there is room.
func TestCutAgain(t *testing.T) {
	next := noise(22)
	b := lived(t)
	was, has := b.view(), b.held()
	for n := range 200 {
		b.d.Arm(next(70))
		b.changes()
		if !b.d.Dead() {
			b.d.Arm(next(len(b.s.Entries()) + 1))
			if e := pack.Guard(b.s.Commit); e != api.ErrCut {
				t.Fatalf("Commit %d: %d", n, e)
			}
		}
		cuts := make([]int, b.d.Len())
		for i := range cuts {
			cuts[i] = next(65)
		}
		b = b.again(cuts...)
		b.is("cut again", was)
		b.holds("cut again", has)
	}
	b.changes()
	b.commit()
}
