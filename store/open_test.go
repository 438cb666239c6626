package store_test

import (
	"slices"
	"testing"

	"stereobate/api"
	"stereobate/catalog"
	"stereobate/disk"
	"stereobate/extent"
	"stereobate/node"
	"stereobate/pack"
	"stereobate/sha"
	"stereobate/super"
)

// first is the first sector of the heaps that are laid out below.
const first = 6

// laid: a disk whose heap of 40 sectors has these, from its first one on, and whose super, of epoch 2, says where
// the catalog begins.
func laid(t *testing.T, head, bits int, sectors ...string) *disk.Disk {
	t.Helper()
	return laidIn(t, 40, head, bits, sectors...)
}

// laidIn: likewise, with a heap of so many sectors.
func laidIn(t *testing.T, heap, head, bits int, sectors ...string) *disk.Disk {
	t.Helper()
	d := formatted(t, heap, first-2, bits)
	for i, s := range sectors {
		lay(t, d, first+i, s)
	}
	laySuper(t, d, super.Super{Epoch: 2, Journal: first - 2, Bits: bits, Head: head, Next: 9})
	return d
}

// many: a catalog of so many volumes, from the first sector on.
func many(n int) []string {
	l := []string{volume(uint32(n), 0, 0)}
	for id := n - 1; id > 0; id-- {
		l = slices.Insert(l, 0, volume(uint32(id), 0, first+id))
	}
	return l
}

// volume: an entry with a map.
func volume(id uint32, root, next int) string {
	return catalog.Entry{ID: id, Size: 20, Root: root, Born: 1}.Bytes(next)
}

// branch: a node with one kid.
func branch(level, kid int) string {
	n := node.Node{Level: level, Sum: sha.Of("any")}
	n.Kids[3] = kid
	return n.Bytes()
}

// head: an extent's, of one sector.
func head(at int, sum string) string {
	x := extent.Head{Sum: sha.Of(sum)}
	x.At[1] = at
	return x.Bytes()
}

// P18.1: layer 7's errors: no archive, and no power.
func TestOpenNone(t *testing.T) {
	for _, d := range []*disk.Disk{disk.New(0), disk.New(1), disk.New(2), disk.New(100), full(t, 1), full(t, 100)} {
		fails(t, "no archive", d, api.ErrForm)
	}
	d := formatted(t, 40, 4, 256)
	cut(d)
	fails(t, "no power", d, api.ErrCut)
	d.Crash()
	over(t, d)
	spoil(d, 1, 0)
	fails(t, "its super is spoilt", d, api.ErrForm)
}

// P18.1: the catalog's errors, of layer 15.
func TestOpenCatalog(t *testing.T) {
	for _, c := range []struct {
		what    string
		want    api.Errno
		head    int
		sectors []string
	}{
		{"one", api.OK, 6, []string{volume(1, 0, 0)}},
		{"two", api.OK, 7, []string{volume(2, 0, 0), volume(1, 0, 6)}},
		{"none lies there", api.ErrSum, 6, nil},
		{"a node", api.ErrForm, 6, []string{branch(2, 0)}},
		{"a sum that isn't its", api.ErrSum, 6, []string{volume(1, 0, 0)[:60] + "abcd"}},
		{"a volume without sectors", api.ErrForm, 6, []string{catalog.Entry{ID: 1}.Bytes(0)}},
		{"the next one isn't there", api.ErrSum, 6, []string{volume(1, 0, 7)}},
		{"the next one lies in the journal", api.ErrRange, 6, []string{volume(1, 0, 5)}},
		{"the next one lies behind the heap", api.ErrRange, 6, []string{volume(1, 0, 46)}},
		{"a ring of one", api.ErrForm, 6, []string{volume(1, 0, 6)}},
		{"a ring of two", api.ErrForm, 6, []string{volume(1, 0, 7), volume(2, 0, 6)}},
		{"two of one number", api.ErrForm, 6, []string{volume(2, 0, 7), volume(2, 0, 0)}},
		{"falling numbers", api.ErrForm, 6, []string{volume(2, 0, 7), volume(1, 0, 0)}},
	} {
		d := laid(t, c.head, 256, c.sectors...)
		if c.want == api.OK {
			over(t, d).settled()
			continue
		}
		fails(t, c.what, d, c.want)
	}
}

// P18.1: the maps' errors, of layer 16.
func TestOpenMaps(t *testing.T) {
	for _, c := range []struct {
		what    string
		want    api.Errno
		sectors []string // behind the one entry, whose root is the first of them
	}{
		{"a map", api.OK, []string{branch(2, 8), branch(1, 9), branch(0, 10), head(11, "x"), "x"}},
		{"no node", api.ErrSum, nil},
		{"another level", api.ErrForm, []string{branch(1, 8), branch(0, 9), head(10, "x"), "x"}},
		{"another level below", api.ErrForm, []string{branch(2, 8), branch(0, 9), head(10, "x"), "x"}},
		{"an extent's head", api.ErrForm, []string{head(8, "x"), "x"}},
		{"an entry", api.ErrForm, []string{volume(2, 0, 0)}},
		{"a kid in the journal", api.ErrRange, []string{branch(2, 5)}},
		{"a kid behind the heap", api.ErrRange, []string{branch(2, 46)}},
		{"no extent", api.ErrSum, []string{branch(2, 8), branch(1, 9), branch(0, 10)}},
		{"an extent that is a node", api.ErrForm, []string{branch(2, 8), branch(1, 9), branch(0, 10), branch(0, 0)}},
		{"an extent's sector behind the heap", api.ErrRange, []string{branch(2, 8), branch(1, 9), branch(0, 10), head(46, "x")}},
		{"an extent's sector is its head", api.ErrForm, []string{branch(2, 8), branch(1, 9), branch(0, 10), head(10, "x")}},
		{"an extent's sector is the entry", api.ErrForm, []string{branch(2, 8), branch(1, 9), branch(0, 10), head(6, "x")}},
	} {
		d := laid(t, first, 256, append([]string{volume(1, 7, 0)}, c.sectors...)...)
		if c.want == api.OK {
			over(t, d).settled()
			continue
		}
		fails(t, c.what, d, c.want)
	}
	for _, root := range []int{1, 5, 46, 65535} {
		fails(t, "a root outside of the heap", laid(t, first, 256, volume(1, root, 0)), api.ErrRange)
	}
}

// P18.1: two unlike extents with one address, by the super's bits.
func TestOpenClash(t *testing.T) {
	other := "y" // of whose sum the first bit is that of "x", and the eighth isn't
	for sha.Of(other).Head(1) != sha.Of("x").Head(1) || sha.Of(other).Head(8) == sha.Of("x").Head(8) {
		other += "y"
	}
	leaf := node.Node{Level: 0}
	leaf.Kids[0], leaf.Kids[7] = 10, 12
	for bits, want := range map[int]api.Errno{1: api.ErrClash, 8: api.OK, 256: api.OK} {
		d := laid(t, first, bits, volume(1, 7, 0), branch(2, 8), branch(1, 9), leaf.Bytes(), head(11, "x"), "x", head(13, other), "y")
		if s, e := open(d); e != want || (s == nil) != (want != api.OK) {
			t.Errorf("Open with %d bits: %d, not %d", bits, e, want)
		}
	}
}

// P18.1: of several errors the first: the whole catalog's come ahead of the maps', which come by rising numbers.
func TestOpenFirst(t *testing.T) {
	spoilt, wrong := "no node", branch(0, 0)
	fails(t, "catalog", laid(t, 6, 256, volume(1, 8, 7), volume(2, 0, 46), spoilt), api.ErrRange)
	fails(t, "maps", laid(t, 6, 256, volume(1, 8, 7), volume(2, 9, 0), spoilt, wrong), api.ErrSum)
	fails(t, "maps", laid(t, 6, 256, volume(1, 9, 7), volume(2, 8, 0), spoilt, wrong), api.ErrForm)
	fails(t, "maps", laid(t, 7, 256, volume(2, 9, 0), volume(1, 8, 6), spoilt, wrong), api.ErrSum)
}

// P18.1: a byte of the catalog, a node or a head that is spoilt is ErrSum; those of extents' sectors are read
// later.
func TestOpenSpoilt(t *testing.T) {
	b := newBox(t, 200, 8, 256)
	for id := uint32(1); id < 4; id++ {
		b.made(b.s.Create(40))
		b.fill(id, 4*int(id), 3, uint64(id))
	}
	b.made(b.s.Snapshot(2))
	b.commit()
	n := map[api.Errno]int{}
	for _, at := range b.s.Heap.All() {
		for _, by := range []int{0, 1, 30, 59, 60, 63} {
			d := b.d.Clone()
			spoil(d, at, by)
			s, e := open(d)
			n[e]++
			switch {
			case e == api.ErrSum && s == nil:
			case e != api.OK:
				t.Errorf("Open with byte %d of sector %d spoilt: %d", by, at, e)
			default:
				bad := api.OK
				for _, x := range s.Entries() {
					if _, e := s.Read(x.ID, 0, x.Size); e != api.OK {
						bad = e
					}
				}
				if bad != api.ErrSum {
					t.Errorf("Read with byte %d of sector %d spoilt: %d", by, at, bad)
				}
			}
		}
	}
	if n[api.OK] != 6*9 || n[api.ErrSum] != 6*(4+3*4) {
		t.Errorf("Open: %v", n)
	}
}

// P18.1: the volumes of the last checkpoint, in the heap, and with the bits and the number, of its super; the
// epoch is that of the super; the disk stays as it is.
func TestOpen(t *testing.T) {
	for _, journal := range []int{4, 17, 512} {
		for _, bits := range []int{12, 256} {
			b := newBox(t, 300, journal, bits)
			b.fill(b.made(b.s.Create(33)), 2, 9, 1)
			b.made(b.s.Snapshot(1))
			for range 4 { // each slot in its turn
				b.fill(1, 20, 2, 2)
				b.made(b.s.Clone(1))
				b.commit()
				was := b.d.Clone()
				a := over(t, b.d)
				a.is("Open", b.view())
				a.holds("Open", b.held())
				alike(t, "Open", b.d, was)
				if a.s.Super != b.s.Super || a.s.Disk != b.d || a.s.Heap.Disk != b.d || a.s.Maps.Heap != a.s.Heap {
					t.Errorf("Open: %+v, not %+v", a.s.Super, b.s.Super)
				}
				if n := a.s.Heap.Free() + a.s.Heap.Held(); n != 300 {
					t.Errorf("Open: a heap of %d sectors", n)
				}
				x, e := a.s.Info(a.made(a.s.Create(1)))
				if e != api.OK || x.Born != b.s.Super.Epoch || x.ID != b.s.Super.Next {
					t.Errorf("Create: %+v, %d", x, e)
				}
			}
		}
	}
}

// P18.1: extents clash by the bits that Format was told.
func TestOpenBits(t *testing.T) {
	for bits, want := range map[int]api.Errno{1: api.ErrClash, 256: api.OK} {
		b := newBox(t, 300, 4, bits)
		b.made(b.s.Create(100))
		next, last := noise(9), api.OK
		for i := 0; i < 3 && last == api.OK; i++ { // the document's ninth example of the whole
			b.commit()
			b = b.again()
			last = b.s.Write(1, 4*i, some(next, 256))
		}
		if last != want {
			t.Errorf("with %d bits: %d, not %d", bits, last, want)
		}
	}
}

// P18.1: an archive whose super's number is one that a volume has, or whose catalog has more volumes than can be
// made, is opened; the number is passed over.
func TestOpenNumbers(t *testing.T) {
	b := over(t, laid(t, 6, 256, volume(8, 0, 7), volume(9, 0, 8), volume(10, 0, 0)))
	if b.s.Next() != 11 || len(b.s.Entries()) != 3 {
		t.Errorf("Open: Next %d, %+v", b.s.Next(), b.s.Entries())
	}
	b = over(t, laid(t, 6, 256, many(17)...))
	if id, e := b.s.Create(1); len(b.s.Entries()) != 17 || id != 0 || e != api.ErrFull {
		t.Errorf("Open: %d volumes; Create: %d, %d", len(b.s.Entries()), id, e)
	}
	b.settled()
}

// P18.1, K3: two stores of one disk have volumes of their own; Open again answers the last checkpoint.
func TestOpenTwice(t *testing.T) {
	b := newBox(t, 100, 4, 256)
	b.fill(b.made(b.s.Create(9)), 0, 9, 1)
	b.commit()
	was := b.view()
	b.made(b.s.Create(5))
	b.works(b.s.Trim(1, 0, 4))
	a := over(t, b.d)
	a.is("Open beside another one", was)
	a.made(a.s.Snapshot(1))
	if len(b.s.Entries()) != 2 || b.s.Next() != 3 {
		t.Errorf("%+v", b.s.Entries())
	}
	if e := pack.Guard(func() { a.s.Entries()[0].Size = 7 }); e != api.OK || a.view().entries[0].Size != 9 {
		t.Errorf("%+v", a.s.Entries())
	}
}
