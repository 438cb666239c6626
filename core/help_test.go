package core_test

import (
	"crypto/sha256"
	"maps"
	"slices"
	"strings"
	"testing"

	"stereobate/api"
	"stereobate/catalog"
	"stereobate/core"
	"stereobate/disk"
	"stereobate/heap"
	"stereobate/pack"
	"stereobate/sha"
	"stereobate/walk"
)

// box is volumes, with what they lie in.
type box struct {
	t    *testing.T
	d    *disk.Disk
	h    *heap.Heap
	c    *core.Core
	from int // the heap's first sector
	bits int
	held []int // sectors that somebody else has
}

func newBox(t *testing.T, n, from, bits int) *box {
	return over(t, disk.New(n), from, bits, 1)
}

// over: volumes in a heap of a disk in which nothing is held yet.
func over(t *testing.T, d *disk.Disk, from, bits int, next uint32) *box {
	h := heap.New(d, from)
	return &box{t, d, h, core.New(h, bits, next), from, bits, nil}
}

// again: other volumes, over a copy of the disk, that adopt all that there are.
func (b *box) again() *box {
	b.t.Helper()
	d := b.d.Clone()
	d.Crash(slices.Repeat([]int{64}, d.Len())...)
	a := over(b.t, d, b.from, b.bits, b.c.Next())
	if e := pack.Guard(func() { a.c.Adopt(b.c.Entries()) }); e != api.OK {
		b.t.Fatalf("Adopt: %d", e)
	}
	return a
}

// state is all that can be seen of volumes but their sectors.
type state struct {
	free, late, count int
	refs              map[int]int
	entries           []catalog.Entry
	next              uint32
}

func (b *box) state() state {
	s := state{b.h.Free(), b.h.Late(), b.c.Maps.Extents.Count(), map[int]int{}, b.c.Entries(), b.c.Next()}
	for _, at := range b.h.All() {
		s.refs[at] = b.h.Refs(at)
	}
	return s
}

func (b *box) is(what string, want state) {
	b.t.Helper()
	s := b.state()
	if s.free != want.free || s.late != want.late || s.count != want.count || s.next != want.next ||
		!maps.Equal(s.refs, want.refs) || !slices.Equal(s.entries, want.entries) {
		b.t.Errorf("%s: %+v, not %+v", what, s, want)
	}
}

// refused: a call that answers so, and changes nothing.
func (b *box) refused(what string, want api.Errno, run func() api.Errno) {
	b.t.Helper()
	was := b.state()
	if e := run(); e != want {
		b.t.Errorf("%s: %d, not %d", what, e, want)
	}
	b.is(what, was)
}

// works: a call without an error.
func (b *box) works(e api.Errno) {
	b.t.Helper()
	if e != api.OK {
		b.t.Fatalf("a call: %d", e)
	}
}

// made: the number of a volume that is made.
func (b *box) made(id uint32, e api.Errno) uint32 {
	b.t.Helper()
	b.works(e)
	if id == 0 {
		b.t.Fatal("the volume 0 was made")
	}
	return id
}

// info: a volume that there is.
func (b *box) info(id uint32) catalog.Entry {
	b.t.Helper()
	x, e := b.c.Info(id)
	b.works(e)
	return x
}

// text: all that a volume reads.
func (b *box) text(id uint32) string {
	b.t.Helper()
	s, e := b.c.Read(id, 0, b.info(id).Size)
	b.works(e)
	return s
}

// has: a volume reads just so.
func (b *box) has(what string, id uint32, want string) {
	b.t.Helper()
	if s := b.text(id); s != want {
		b.t.Errorf("%s: volume %d reads %s, not %s", what, id, short(s), short(want))
	}
}

// texts: what all volumes read.
func (b *box) texts() map[uint32]string {
	b.t.Helper()
	m := map[uint32]string{}
	for _, x := range b.c.Entries() {
		m[x.ID] = b.text(x.ID)
	}
	return m
}

// reached: what is held is what the maps of all volumes reach (P16.4).
func (b *box) reached() {
	b.t.Helper()
	var roots, l []int
	for _, x := range b.c.Entries() {
		roots = append(roots, x.Root)
	}
	b.works(b.h.Try(func() { l = walk.Reach(b.c.Maps, roots...) }))
	if l = slices.Sorted(slices.Values(append(l, b.held...))); !slices.Equal(l, b.h.All()) {
		b.t.Errorf("%v are held, not %v", b.h.All(), l)
	}
}

// fill: sectors of noise in a volume.
func (b *box) fill(id uint32, at, n int, seed uint64) string {
	b.t.Helper()
	s := some(noise(seed), n*64)
	b.works(b.c.Write(id, at, s))
	return s
}

// on: what lies in a sector of the disk.
func (b *box) on(at int) string {
	s := ""
	pack.Guard(func() { s = b.d.Read(at) })
	return s
}

// spoil: a byte of a sector, and, asked again, it is whole again.
func (b *box) spoil(at int) {
	pack.Guard(func() { b.d.Spoil(at, 40, 0x10) })
}

// cut: the power is cut.
func (b *box) cut() {
	b.d.Arm(0)
	pack.Guard(b.d.Sync)
}

// whole: there is power again, and all that was written.
func (b *box) whole() {
	b.d.Crash(slices.Repeat([]int{64}, b.d.Len())...)
}

// leave: somebody else takes the last sectors, so that so many are free.
func (b *box) leave(free int) {
	b.t.Helper()
	for at := b.d.Len() - 1; b.h.Free() > free; at-- {
		if b.h.Refs(at) > 0 {
			continue
		}
		if e := pack.Guard(func() { b.h.Adopt(at) }); e == api.OK { // else it is late
			b.held = append(b.held, at)
		}
	}
	if b.h.Free() != free {
		b.t.Fatalf("%d are free, not %d", b.h.Free(), free)
	}
}

// noise: numbers below n, the same ones of the same seed.
func noise(seed uint64) func(n int) int {
	return func(n int) int {
		seed = seed*6364136223846793005 + 1442695040888963407
		return int((seed >> 33) % uint64(n))
	}
}

// some: so many bytes of noise, none of them 0.
func some(next func(int) int, n int) string {
	b := make([]byte, n)
	for i := range b {
		b[i] = byte(1 + next(255))
	}
	return string(b)
}

// sector: one that begins with a text, and is bytes 0 behind.
func sector(s string) string {
	return s + noughts(64-len(s))
}

func noughts(n int) string {
	return strings.Repeat("\x00", n)
}

// with: bytes of which those from one on are others.
func with(s string, at int, to string) string {
	return s[:at] + to + s[at+len(to):]
}

// short: the first byte of each sector, by which tests tell them.
func short(s string) string {
	var l []byte
	for at := 0; at < len(s); at += 64 {
		l = append(l, s[at])
	}
	return string(l)
}

// digest: of a map that has these bytes, by the document's words (layer 12), of the library's sum.
func digest(text string, level, first int) sha.Sum {
	n := []int{8, 64, 512}[level] / 8
	b, some := []byte{'N', byte(level)}, false
	for i := range 8 {
		var sum sha.Sum
		if at := 256 * (first + i*n); at >= len(text) {
			// nothing is there
		} else if level > 0 {
			sum = digest(text, level-1, first+i*n)
		} else if s := text[at:min(at+256, len(text))]; strings.Trim(s, "\x00") != "" {
			sum = sha256.Sum256([]byte(s + noughts(256-len(s))))
		}
		some = some || sum != sha.Sum{}
		b = append(b, sum[:]...)
	}
	if !some {
		return sha.Sum{}
	}
	return sha256.Sum256(b)
}

// asked is a range of sectors that is asked for, and what is answered.
type asked struct {
	at, n int
	want  api.Errno
}

const (
	most  = 1<<63 - 1
	least = -1 << 63
)

// ranges: of a volume of ten sectors, at each edge.
func ranges() []asked {
	return []asked{
		{0, 0, api.OK}, {0, 1, api.OK}, {0, 10, api.OK}, {9, 1, api.OK}, {10, 0, api.OK}, {5, 5, api.OK}, {9, 0, api.OK},
		{0, 11, api.ErrRange}, {9, 2, api.ErrRange}, {10, 1, api.ErrRange}, {11, 0, api.ErrRange}, {5, 6, api.ErrRange},
		{-1, 0, api.ErrRange}, {-1, 1, api.ErrRange}, {-1, 11, api.ErrRange}, {0, -1, api.ErrRange}, {10, -1, api.ErrRange},
		{11, -1, api.ErrRange}, {1, most, api.ErrRange}, {10, most, api.ErrRange}, {0, most, api.ErrRange},
		{most, 1, api.ErrRange}, {most, most, api.ErrRange}, {most, 0, api.ErrRange}, {least, 0, api.ErrRange},
		{least, least, api.ErrRange}, {0, least, api.ErrRange}, {5, least, api.ErrRange}, {-1, most, api.ErrRange},
		{12, 1, api.ErrRange}, {11, 1, api.ErrRange}, {2048, 0, api.ErrRange}, {1 << 32, 1, api.ErrRange}, {0, 1 << 32, api.ErrRange},
	}
}
