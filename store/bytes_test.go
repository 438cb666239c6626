package store_test

import (
	"testing"

	"stereobate/api"
	"stereobate/catalog"
	"stereobate/disk"
	"stereobate/extent"
	"stereobate/node"
	"stereobate/pack"
	"stereobate/sha"
	"stereobate/super"
)

// anything: a sector of any kind that is whole, and says anything, most often of sectors of a heap that has so
// many from one on.
func anything(next func(int) int, from, n int) string {
	at := func() int {
		if next(3) == 0 {
			return 0
		}
		return from + next(n+next(3))
	}
	switch next(4) {
	case 0:
		x := catalog.Entry{ID: uint32(1 + next(6)), Only: next(3) == 0, Size: 1 + next(60), Root: at(), Born: uint32(next(9))}
		return x.Bytes(at())
	case 1:
		x := extent.Head{Sum: sha.Of(string(rune('a' + next(9))))}
		for i := range x.At {
			x.At[i] = at()
		}
		return x.Bytes()
	case 2:
		x := node.Node{Level: next(3), Sum: sha.Of(string(rune('a' + next(9))))}
		for i := range x.Kids {
			x.Kids[i] = at()
		}
		return x.Bytes()
	}
	return sealed("NEV"[next(3):][:1] + string(rune(next(3))) + some(next, 56))
}

// tried: a store of any bytes, if there is one: each call ends.
func tried(t *testing.T, next func(int) int, d *disk.Disk) api.Errno {
	s, e := open(d)
	if e != api.OK {
		if s != nil {
			t.Errorf("Open: %v, %d", s, e)
		}
		return e
	}
	p := &play{box: &box{t, d, s}, next: next, seen: map[string]int{}, texts: []string{noughts(256), some(next, 256), some(next, 256)}}
	for range 6 {
		for range next(9) {
			p.one()
		}
		for _, x := range s.Entries() {
			s.Read(x.ID, 0, x.Size)
			s.Sum(x.ID)
		}
		if pack.Guard(s.Commit) != api.OK {
			break
		}
		if c, e := open(d.Clone()); e == api.OK && c.Super != s.Super {
			t.Errorf("Open: %+v, not %+v", c.Super, s.Super)
		}
	}
	return api.OK
}

// P1, P18.1: whatever stands on the disk, in sectors that are whole: Open answers a store, or fails, and then
// each call of it ends.
func TestAnyBytes(t *testing.T) {
	next := noise(31)
	seen := map[api.Errno]int{}
	for range 600 {
		d := disk.New(38)
		for at := 2; at < d.Len(); at++ {
			lay(t, d, at, anything(next, 6, 6+next(26)))
		}
		laySuper(t, d, super.Super{Epoch: uint32(1 + next(9)), Journal: 4, Bits: 1 + next(256), Head: []int{0, 6 + next(32)}[next(2)], Next: uint32(1 + next(9))})
		seen[tried(t, next, d)]++
	}
	if seen[api.OK] < 100 || seen[api.ErrForm] < 100 {
		t.Errorf("Open: %v", seen)
	}
}

// P1, P18.1: likewise, of an archive some of whose sectors are others.
func TestOtherBytes(t *testing.T) {
	next := noise(32)
	seen := map[api.Errno]int{}
	b := lived(t)
	l := b.s.Heap.All()
	for range 600 {
		d := b.d.Clone()
		for range 1 + next(3) {
			other(t, next, d, l)
		}
		seen[tried(t, next, d)]++
	}
	for _, e := range []api.Errno{api.OK, api.ErrForm, api.ErrRange, api.ErrSum} {
		if seen[e] < 20 {
			t.Errorf("Open: %v", seen)
		}
	}
}

// other: one of these sectors is another one, that is whole.
func other(t *testing.T, next func(int) int, d *disk.Disk, l []int) {
	t.Helper()
	at := l[next(len(l))]
	switch next(5) {
	case 0:
		lay(t, d, at, on(d, l[next(len(l))]))
	case 1:
		lay(t, d, at, anything(next, 6, 110))
	default:
		text := []byte(on(d, at)[:60])
		by := next(40)
		text[by] = []byte{0, 1, text[by] + 1, byte(l[next(len(l))]), byte(next(256))}[next(5)]
		lay(t, d, at, sealed(string(text)))
	}
}
