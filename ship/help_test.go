package ship_test

import (
	"crypto/sha256"
	"encoding/binary"
	"hash/crc32"
	"slices"
	"strings"
	"testing"

	"stereobate/api"
	"stereobate/block"
	"stereobate/catalog"
	"stereobate/disk"
	"stereobate/pack"
	"stereobate/redo"
	"stereobate/ship"
)

const greatest = 1<<63 - 1

// box is an archive, with what it lies in.
type box struct {
	t *testing.T
	d *disk.Disk
	a *block.Archive
}

// newBox: an archive whose heap has so many sectors.
func newBox(t *testing.T, heap, bits int) *box {
	t.Helper()
	d := disk.New(2 + 40 + heap)
	if e := block.Format(d, 40, bits); e != api.OK {
		t.Fatalf("Format: %d", e)
	}
	return over(t, d)
}

// over: the archive of a disk.
func over(t *testing.T, d *disk.Disk) *box {
	t.Helper()
	a, e := block.Mount(d)
	if e != api.OK {
		t.Fatalf("Mount: %d", e)
	}
	return &box{t, d, a}
}

// again: the archive of a copy of the disk, behind a crash.
func (b *box) again(cuts ...int) *box {
	b.t.Helper()
	d := b.d.Clone()
	d.Crash(cuts...)
	return over(b.t, d)
}

func (b *box) works(e api.Errno) {
	b.t.Helper()
	if e != api.OK {
		b.t.Fatalf("a call: %d", e)
	}
}

// do: an op that works.
func (b *box) do(o redo.Op) uint32 {
	b.t.Helper()
	id, e := b.a.Do(o)
	if e != api.OK {
		b.t.Fatalf("Do of kind %d: %d", o.Kind, e)
	}
	return id
}

func (b *box) create(n int) uint32 {
	b.t.Helper()
	return b.do(redo.Op{Kind: redo.Create, N: n})
}

// holding: a volume that has these bytes.
func (b *box) holding(text string) uint32 {
	b.t.Helper()
	id := b.create(len(text) / 64)
	b.write(id, 0, text)
	return id
}

func (b *box) clone(id uint32) uint32 {
	b.t.Helper()
	return b.do(redo.Op{Kind: redo.Clone, ID: id})
}

func (b *box) snapshot(id uint32) uint32 {
	b.t.Helper()
	return b.do(redo.Op{Kind: redo.Snapshot, ID: id})
}

func (b *box) write(id uint32, at int, data string) {
	b.t.Helper()
	b.do(redo.Op{Kind: redo.Write, ID: id, At: at, Data: data})
}

func (b *box) trim(id uint32, at, n int) {
	b.t.Helper()
	b.do(redo.Op{Kind: redo.Trim, ID: id, At: at, N: n})
}

func (b *box) delete(id uint32) {
	b.t.Helper()
	b.do(redo.Op{Kind: redo.Delete, ID: id})
}

// read: all that a volume has.
func (b *box) read(id uint32) string {
	b.t.Helper()
	x, e := b.a.Info(id)
	b.works(e)
	s, e := b.a.Read(id, 0, x.Size)
	b.works(e)
	return s
}

// has: a volume has these bytes, and their digest.
func (b *box) has(what string, id uint32, want string) {
	b.t.Helper()
	if s := b.read(id); s != want {
		b.t.Fatalf("%s: volume %d has other bytes", what, id)
	}
	if s, e := b.a.Sum(id); e != api.OK || s.Text() != digest(want) {
		b.t.Fatalf("%s: Sum(%d): %s, %d", what, id, s.Hex(), e)
	}
}

// state is what can be seen of an archive but what its volumes read.
type state struct {
	entries     []catalog.Entry
	next, epoch uint32
	room        int
	free, late  int
	held, refs  []int
	extents     int
	dead        bool
}

func (b *box) state() state {
	t := b.a.Store()
	s := state{b.a.Entries(), t.Next(), t.Super.Epoch, b.a.Room(), t.Heap.Free(), t.Heap.Late(), t.Heap.All(), nil, t.Maps.Extents.Count(), b.a.Dead()}
	for _, at := range s.held {
		s.refs = append(s.refs, t.Heap.Refs(at))
	}
	return s
}

func (s state) same(o state) bool {
	return slices.Equal(s.entries, o.entries) && s.next == o.next && s.epoch == o.epoch && s.room == o.room &&
		s.free == o.free && s.late == o.late && slices.Equal(s.held, o.held) && slices.Equal(s.refs, o.refs) &&
		s.extents == o.extents && s.dead == o.dead
}

// texts: what all volumes have.
func (b *box) texts() []string {
	b.t.Helper()
	var l []string
	for _, x := range b.a.Entries() {
		l = append(l, b.read(x.ID))
	}
	return l
}

// export: what Export answers of two volumes; it changes nothing, and neither writes nor syncs.
func (b *box) export(from, to uint32) (string, api.Errno) {
	b.t.Helper()
	was, loose := b.state(), b.d.Loose()
	off := b.d.Dead()
	b.d.Arm(0)
	text, e := ship.Export(b.a, from, to)
	if b.d.Dead() != off {
		b.t.Fatal("the disk was written, or synced")
	}
	b.d.Arm(greatest)
	if s := b.state(); !s.same(was) || !slices.Equal(b.d.Loose(), loose) {
		b.t.Fatalf("something has changed: %+v, not %+v", s, was)
	}
	return text, e
}

// exported: the stream of two volumes, which Export answers.
func (b *box) exported(from, to uint32) string {
	b.t.Helper()
	text, e := b.export(from, to)
	if e != api.OK {
		b.t.Fatalf("Export(%d, %d): %d", from, to, e)
	}
	return text
}

// refused: Export answers so, and nothing beside it.
func (b *box) refused(what string, from, to uint32, want api.Errno) {
	b.t.Helper()
	if text, e := b.export(from, to); e != want || text != "" {
		b.t.Errorf("%s: Export(%d, %d): %d bytes, %d, not %d", what, from, to, len(text), e, want)
	}
}

// is: Export answers of two volumes what their bytes ask for; how many items there are.
func (b *box) is(what string, from, to uint32) int {
	b.t.Helper()
	y := b.read(to)
	x := noughts(len(y))
	if from != 0 {
		x = b.read(from)
	}
	items := differ(x, y)
	if got := b.exported(from, to); got != sealed(body(x, y, items)) {
		b.t.Fatalf("%s: Export(%d, %d): % x .., %d bytes, not %d items", what, from, to, got[:min(len(got), 90)], len(got), len(items))
	}
	return len(items)
}

// imports: Import works; the volume has these bytes then; a checkpoint was made; no other volume is another one.
func (b *box) imports(what string, id uint32, text, want string) {
	b.t.Helper()
	was, texts := b.state(), b.texts()
	if e := ship.Import(b.a, id, text); e != api.OK {
		b.t.Fatalf("%s: Import(%d): %d", what, id, e)
	}
	b.has(what, id, want)
	for i, x := range was.entries {
		now, e := b.a.Info(x.ID)
		if now.Root = x.Root; e != api.OK || now != x {
			b.t.Fatalf("%s: %+v, not %+v", what, now, x)
		}
		if x.ID != id && b.read(x.ID) != texts[i] {
			b.t.Fatalf("%s: volume %d is another one, too", what, x.ID)
		}
	}
	s := b.state()
	if s.epoch != was.epoch+1 || s.room != 40 || s.late != 0 || s.next != was.next || s.dead || b.d.Loose() != nil {
		b.t.Fatalf("%s: no checkpoint: %+v", what, s)
	}
	b.again().has(what, id, want)
}

// keeps: Import answers such an error, and changes nothing: neither volumes nor the disk, but for sectors that are free.
func (b *box) keeps(what string, id uint32, text string, want api.Errno) {
	b.t.Helper()
	was, texts, d := b.state(), b.texts(), b.d.Clone()
	if e := ship.Import(b.a, id, text); e != want {
		b.t.Fatalf("%s: Import(%d): %d, not %d", what, id, e, want)
	}
	if s := b.state(); !s.same(was) {
		b.t.Fatalf("%s: something has changed: %+v, not %+v", what, s, was)
	}
	if !slices.Equal(b.texts(), texts) {
		b.t.Fatalf("%s: what volumes have has changed", what)
	}
	for at := range b.d.Len() {
		if (at < 42 || slices.Contains(was.held, at)) && on(b.d, at) != on(d, at) {
			b.t.Fatalf("%s: sector %d is another one", what, at)
		}
	}
}

// on: what lies in a sector of a disk.
func on(d *disk.Disk, at int) string {
	s := ""
	pack.Guard(func() { s = d.Read(at) })
	return s
}

// spoil: a byte of a sector is another one, or, asked again, as it was.
func (b *box) spoil(at int) {
	b.t.Helper()
	b.works(pack.Guard(func() { b.d.Spoil(at, 9, 0x10) }))
}

// item is an extent: which, its bytes.
type item struct {
	at   int
	data string
}

// extentOf: the bytes of the extent at a place, with bytes 0 behind the last sector.
func extentOf(s string, at int) string {
	s = s[min(at*256, len(s)):min(at*256+256, len(s))]
	return s + noughts(256-len(s))
}

// differ: the extents of the second one of two texts of one length that are others in the first one.
func differ(x, y string) []item {
	var l []item
	for at := 0; at*256 < len(y); at++ {
		if s := extentOf(y, at); s != extentOf(x, at) {
			l = append(l, item{at, s})
		}
	}
	return l
}

// body: the bytes of the stream ahead of their sum that makes one text of another one by these items.
func body(x, y string, l []item) string {
	b := []byte("SBDF\x01")
	b = binary.BigEndian.AppendUint16(b, uint16(len(y)/64))
	b = append(b, digest(x)+digest(y)...)
	b = binary.BigEndian.AppendUint16(b, uint16(len(l)))
	for _, i := range l {
		b = binary.BigEndian.AppendUint16(b, uint16(i.at))
		if i.data == noughts(256) {
			b = append(b, 0)
		} else {
			b = append(append(b, 1), i.data...)
		}
	}
	return string(b)
}

// sealed: bytes and their sum (layer 2), built otherwise.
func sealed(body string) string {
	c := crc32.Checksum([]byte(body), crc32.MakeTable(crc32.Castagnoli))
	return string(binary.BigEndian.AppendUint32([]byte(body), c))
}

// between: the stream that makes one text of another one, built otherwise.
func between(x, y string) string {
	return sealed(body(x, y, differ(x, y)))
}

// none: the sum of what is all bytes 0.
var none = noughts(32)

// digest: of a volume with these bytes (layers 12 and 13), built otherwise: level by level.
func digest(s string) string {
	var sums []string
	for at := range 512 {
		sum := none
		if x := extentOf(s, at); x != noughts(256) {
			h := sha256.Sum256([]byte(x))
			sum = string(h[:])
		}
		sums = append(sums, sum)
	}
	for level := range 3 {
		var above []string
		for kids := range slices.Chunk(sums, 8) {
			sum := strings.Join(kids, "")
			if sum == noughts(8*32) {
				sum = none
			} else {
				h := sha256.Sum256([]byte("N" + string(rune(level)) + sum))
				sum = string(h[:])
			}
			above = append(above, sum)
		}
		sums = above
	}
	return sums[0]
}

// noise: numbers below n, the same ones of the same seed.
func noise(seed uint64) func(n int) int {
	return func(n int) int {
		seed = seed*6364136223846793005 + 1442695040888963407
		return int((seed >> 33) % uint64(n))
	}
}

// some: so many sectors of noise, no byte of which is 0.
func some(next func(int) int, sectors int) string {
	b := make([]byte, 64*sectors)
	for i := range b {
		b[i] = byte(1 + next(255))
	}
	return string(b)
}

// of: so many sectors that all have the same bytes.
func of(s string, sectors int) string {
	return strings.Repeat(s, 64*sectors)
}

func noughts(n int) string {
	return strings.Repeat("\x00", n)
}

// patched: a text with other sectors at a place.
func patched(s string, at int, data string) string {
	return s[:at*64] + data + s[at*64+len(data):]
}
