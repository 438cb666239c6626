package scrub_test

import (
	"encoding/binary"
	"hash/crc32"
	"slices"
	"strings"
	"testing"

	"stereobate/api"
	"stereobate/block"
	"stereobate/catalog"
	"stereobate/disk"
	"stereobate/pack"
	"stereobate/redo"
	"stereobate/scrub"
	"stereobate/walk"
)

const greatest = 1<<63 - 1

// box is an archive, with what it lies in.
type box struct {
	t *testing.T
	d *disk.Disk
	a *block.Archive
}

// newBox: an archive whose heap has so many sectors.
func newBox(t *testing.T, heap, bits int) *box {
	t.Helper()
	d := disk.New(2 + 40 + heap)
	if e := block.Format(d, 40, bits); e != api.OK {
		t.Fatalf("Format: %d", e)
	}
	return over(t, d)
}

// over: the archive of a disk.
func over(t *testing.T, d *disk.Disk) *box {
	t.Helper()
	a, e := block.Mount(d)
	if e != api.OK {
		t.Fatalf("Mount: %d", e)
	}
	return &box{t, d, a}
}

// again: the archive of a copy of the disk, behind a crash.
func (b *box) again() *box {
	b.t.Helper()
	d := b.d.Clone()
	d.Crash()
	return over(b.t, d)
}

func (b *box) works(e api.Errno) {
	b.t.Helper()
	if e != api.OK {
		b.t.Fatalf("a call: %d", e)
	}
}

// do: an op that works.
func (b *box) do(o redo.Op) uint32 {
	b.t.Helper()
	id, e := b.a.Do(o)
	if e != api.OK {
		b.t.Fatalf("Do of kind %d: %d", o.Kind, e)
	}
	return id
}

func (b *box) create(n int) uint32 {
	b.t.Helper()
	return b.do(redo.Op{Kind: redo.Create, N: n})
}

func (b *box) clone(id uint32) uint32 {
	b.t.Helper()
	return b.do(redo.Op{Kind: redo.Clone, ID: id})
}

func (b *box) write(id uint32, at int, data string) {
	b.t.Helper()
	b.do(redo.Op{Kind: redo.Write, ID: id, At: at, Data: data})
}

func (b *box) delete(id uint32) {
	b.t.Helper()
	b.do(redo.Op{Kind: redo.Delete, ID: id})
}

// entry: a volume.
func (b *box) entry(id uint32) catalog.Entry {
	b.t.Helper()
	x, e := b.a.Info(id)
	b.works(e)
	return x
}

// sample: an archive with volumes that have much in common, of which all was committed.
func sample(t *testing.T) *box {
	t.Helper()
	b := newBox(t, 300, 256)
	b.create(600)
	b.write(1, 0, some(noise(1), 9))
	b.write(1, 300, of("x", 4)+of("\x00", 1)+of("y", 3))
	b.write(1, 599, some(noise(2), 1))
	b.clone(1)
	b.write(2, 301, of("z", 1))
	b.do(redo.Op{Kind: redo.Snapshot, ID: 2})
	b.create(9)
	b.create(5)
	b.write(5, 0, of("x", 4)) // as volume 1 has
	b.works(b.a.Checkpoint())
	return b
}

// state is what can be seen of an archive.
type state struct {
	entries    []catalog.Entry
	epoch      uint32
	room       int
	free, late int
	held, refs []int
	loose      []int
	dead       bool
}

func (b *box) state() state {
	t := b.a.Store()
	s := state{b.a.Entries(), t.Super.Epoch, b.a.Room(), t.Heap.Free(), t.Heap.Late(), t.Heap.All(), nil, b.d.Loose(), b.a.Dead()}
	for _, at := range s.held {
		s.refs = append(s.refs, t.Heap.Refs(at))
	}
	return s
}

func (s state) same(o state) bool {
	return slices.Equal(s.entries, o.entries) && s.epoch == o.epoch && s.room == o.room && s.free == o.free && s.late == o.late &&
		slices.Equal(s.held, o.held) && slices.Equal(s.refs, o.refs) && slices.Equal(s.loose, o.loose) && s.dead == o.dead
}

// scrub: what Scrub answers; it changes nothing, and neither writes nor syncs.
func (b *box) scrub() ([]int, int, api.Errno) {
	b.t.Helper()
	was, off := b.state(), b.d.Dead()
	b.d.Arm(0)
	l, n, e := scrub.Scrub(b.a)
	if b.d.Dead() != off {
		b.t.Fatal("the disk was written, or synced")
	}
	b.d.Arm(greatest)
	if s := b.state(); !s.same(was) {
		b.t.Fatalf("something has changed: %+v, not %+v", s, was)
	}
	return l, n, e
}

// is: just these sectors are spoilt, and it looks at so many.
func (b *box) is(what string, n int, bad ...int) {
	b.t.Helper()
	if l, got, e := b.scrub(); e != api.OK || got != n || !slices.Equal(l, bad) {
		b.t.Fatalf("%s: Scrub: %v, %d, %d, not %v, %d", what, l, got, e, bad, n)
	}
}

// whole: nothing is spoilt, and it looks at all that is held.
func (b *box) whole(what string) {
	b.t.Helper()
	b.is(what, b.a.Store().Heap.Held())
}

// holds: Scrub answers what the disk's bytes ask for; the sectors that are spoilt.
func (b *box) holds(what string) []int {
	b.t.Helper()
	r := reckon(b.d, b.a)
	b.is(what, len(r.seen), r.bad()...)
	return r.bad()
}

// spoil: a byte of a sector is another one, or, asked again, as it was.
func (b *box) spoil(at, by int, with byte) {
	b.t.Helper()
	b.works(pack.Guard(func() { b.d.Spoil(at, by, with) }))
}

// lay: bytes in a sector of the disk, sure.
func (b *box) lay(at int, s string) {
	b.t.Helper()
	b.works(pack.Guard(func() { b.d.Write(at, s); b.d.Sync() }))
}

// on: what lies in a sector of the disk.
func (b *box) on(at int) string {
	b.t.Helper()
	s := ""
	b.works(pack.Guard(func() { s = b.d.Read(at) }))
	return s
}

// reach: the sectors that a volume's map reaches.
func (b *box) reach(id uint32) []int {
	b.t.Helper()
	var l []int
	b.works(b.a.Store().Heap.Try(func() { l = walk.Reach(b.a.Store().Maps, b.entry(id).Root) }))
	return l
}

// catalog: where the entries of the last checkpoint lie, one behind the other.
func (b *box) catalog() []int {
	b.t.Helper()
	var l []int
	for at := b.a.Store().Super.Head; at != 0; at = number(b.on(at), 18, 2) {
		l = append(l, at)
	}
	return l
}

// kid: where a node's kid, or a head's sector, lies.
func (b *box) kid(at, which int) int {
	b.t.Helper()
	s := b.on(at)
	if s[0] == 'E' {
		return number(s, 1+2*which, 2)
	}
	return number(s, 2+2*which, 2)
}

// number: of so many bytes at a place.
func number(s string, at, n int) int {
	x := 0
	for _, c := range []byte(s[at : at+n]) {
		x = x<<8 | int(c)
	}
	return x
}

// sum: of a text (layer 2), built otherwise.
func sum(s string) int {
	return int(crc32.Checksum([]byte(s), crc32.MakeTable(crc32.Castagnoli)))
}

// sealed: bytes and the sum behind them, as a sector (layers 11, 12 and 15).
func sealed(text string) string {
	text += noughts(60 - len(text))
	return string(binary.BigEndian.AppendUint32([]byte(text), uint32(sum(text))))
}

// reckoned is at which sectors a look is due by the document's words, built otherwise, and whether each is whole.
type reckoned struct {
	sectors []string
	seen    map[int]bool
}

func reckon(d *disk.Disk, a *block.Archive) reckoned {
	r := reckoned{seen: map[int]bool{}}
	for at := range d.Len() {
		pack.Guard(func() { r.sectors = append(r.sectors, d.Read(at)) })
	}
	for at := a.Store().Super.Head; at != 0; {
		s, ok := r.look(at, isEntry)
		if !ok {
			break
		}
		at = number(s, 18, 2)
	}
	for _, x := range a.Entries() {
		r.down(x.Root, 2)
	}
	return r
}

// look: a sector's bytes, if it is whole, and there wasn't a look at it.
func (r reckoned) look(at int, whole func(s string) bool) (string, bool) {
	if _, ok := r.seen[at]; ok {
		return "", false
	}
	r.seen[at] = at < len(r.sectors) && whole(r.sectors[at])
	if !r.seen[at] {
		return "", false
	}
	return r.sectors[at], true
}

func (r reckoned) down(at, level int) {
	if at == 0 {
		return
	}
	if level < 0 {
		r.head(at)
		return
	}
	if s, ok := r.look(at, func(s string) bool { return isNode(s, level) }); ok {
		for i := range 8 {
			r.down(number(s, 2+2*i, 2), level-1)
		}
	}
}

func (r reckoned) head(at int) {
	s, ok := r.look(at, isHead)
	if !ok {
		return
	}
	for i := range 4 {
		if part := number(s, 1+2*i, 2); part != 0 {
			r.look(part, func(p string) bool { return sum(p) == number(s, 9+4*i, 4) })
		}
	}
}

// bad: those that are spoilt, rising.
func (r reckoned) bad() []int {
	var l []int
	for at, whole := range r.seen {
		if !whole {
			l = append(l, at)
		}
	}
	slices.Sort(l)
	return l
}

func isSealed(s, front string, upto int) bool {
	return number(s, 60, 4) == sum(s[:60]) && strings.HasPrefix(s, front) && s[upto:60] == noughts(60-upto)
}

func isEntry(s string) bool {
	size := number(s, 10, 2)
	return isSealed(s, "V", 20) && s[9] < 2 && number(s, 1, 4) != 0 && size > 0 && size <= 2048
}

func isNode(s string, level int) bool {
	return isSealed(s, "N"+string(rune(level)), 50)
}

func isHead(s string) bool {
	return isSealed(s, "E", 57)
}

// noise: numbers below n, the same ones of the same seed.
func noise(seed uint64) func(n int) int {
	return func(n int) int {
		seed = seed*6364136223846793005 + 1442695040888963407
		return int((seed >> 33) % uint64(n))
	}
}

// some: so many sectors of noise, no byte of which is 0.
func some(next func(int) int, sectors int) string {
	b := make([]byte, 64*sectors)
	for i := range b {
		b[i] = byte(1 + next(255))
	}
	return string(b)
}

// of: so many sectors that all have the same bytes.
func of(s string, sectors int) string {
	return strings.Repeat(s, 64*sectors)
}

func noughts(n int) string {
	return strings.Repeat("\x00", n)
}
