package ship_test

import (
	"crypto/sha256"
	"strings"
	"testing"

	"stereobate/api"
	"stereobate/disk"
	"stereobate/pack"
	"stereobate/ship"
	"stereobate/super"
)

// P22.1: a stream that was made otherwise, of each kind of item.
func TestImport(t *testing.T) {
	b := newBox(t, 400, 256)
	x := patched(some(noise(1), 22), 4, noughts(4*64))
	id := b.holding(x)
	b.clone(id)
	b.snapshot(id)
	y := patched(x, 4, some(noise(2), 4)) // where nothing was
	y = patched(y, 8, noughts(4*64))      // where something was
	y = patched(y, 13, of("y", 1))        // a sector
	y = patched(y, 21, of("z", 1))        // the last one
	b.imports("each kind", id, between(x, y), y)
	b.imports("back", id, between(y, x), x)
	b.imports("nothing", id, between(x, x), x)
	b.imports("nothing again", id, between(x, x), x)
	b.imports("all is to be noughts", id, between(x, noughts(22*64)), noughts(22*64))
	b.imports("of noughts", id, between(noughts(22*64), y), y)
	b.imports("the same of others", 2, between(x, y), y)
	b.has("the snapshot", 3, x)
}

// P22.1: items that are what the volume has anyway, or that are noughts where it has none.
func TestImportSame(t *testing.T) {
	b := newBox(t, 400, 256)
	x := patched(some(noise(1), 22), 4, noughts(4*64))
	id := b.holding(x)
	var all []item
	for at := range 6 {
		all = append(all, item{at, extentOf(x, at)})
	}
	b.imports("all of it", id, sealed(body(x, x, all)), x)
	y := patched(x, 9, of("y", 1))
	all[2].data = extentOf(y, 2)
	b.imports("all, and another one", id, sealed(body(x, y, all)), y)
	b.imports("all of it", id, sealed(body(y, y, all)), y)
}

// P22.1: volumes of which the last extent has some sectors, and the greatest ones.
func TestImportSizes(t *testing.T) {
	for _, size := range []int{1, 2, 3, 4, 5, 6, 7, 8, 9, 33, 257, 2045, 2046, 2047, 2048} {
		b := newBox(t, 500, 256)
		x := noughts(size * 64)
		id := b.create(size)
		y := patched(patched(x, 0, of("y", 1)), size-1, some(noise(1), 1))
		z := patched(y, size-1, noughts(64))
		b.imports("a size", id, between(x, y), y)
		b.imports("a size", id, between(y, z), z)
		b.imports("a size", id, between(z, x), x)
		if heap := b.a.Store().Heap; heap.Held() != 1 {
			t.Errorf("size %d: %d sectors are held", size, heap.Held())
		}
	}
}

// P22.1: each error beside a stream that would do.
func TestImportErrors(t *testing.T) {
	b := newBox(t, 400, 256)
	x, y := some(noise(1), 22), patched(some(noise(1), 22), 9, of("y", 5))
	id := b.holding(x)
	only := b.snapshot(id)
	b.create(22)
	b.holding(x + of("x", 1))
	b.holding(x[64:])
	b.delete(3)
	b.works(b.a.Checkpoint())
	b.trim(4, 0, 1) // stands in the journal
	text := between(x, y)
	for _, none := range []uint32{0, 3, 6, 1 << 31, 1<<32 - 1} {
		b.keeps("no volume", none, text, api.ErrNone)
	}
	b.keeps("to be read only", only, text, api.ErrOnly)
	b.keeps("longer", 4, text, api.ErrSize)
	b.keeps("shorter", 5, text, api.ErrSize)
	b.keeps("another base", id, between(y, x), api.ErrBase)
	b.keeps("of nothing", id, between(noughts(22*64), x), api.ErrBase)
	b.keeps("another target", id, sealed(body(x, of("z", 22), differ(x, y))), api.ErrSum)
	b.keeps("an item less", id, sealed(body(x, y, differ(x, y)[1:])), api.ErrSum)
	b.keeps("an item more", id, sealed(body(x, y, append([]item{{0, extentOf(y, 2)}}, differ(x, y)...))), api.ErrSum)
	b.keeps("nothing is done", id, sealed(body(x, y, nil)), api.ErrSum)
	b.keeps("all is to be as it was", id, sealed(body(x, x, differ(x, y))), api.ErrSum)
	b.keeps("bytes that end too soon", id, text[:3], api.ErrEnd)
	b.keeps("another sum", id, text[:len(text)-1], api.ErrSum)
	b.keeps("another front", id, sealed("SBDG"+text[4:]), api.ErrForm)
	b.keeps("no such size", id, sealed(body("", "", nil)), api.ErrArg)
	b.keeps("items that fall", id, sealed(body(x, y, append(differ(x, y), item{0, extentOf(x, 0)}))), api.ErrForm)
	b.imports("it would do", id, text, y)
}

// K2: of several errors the first one.
func TestImportOrder(t *testing.T) {
	b := newBox(t, 400, 256)
	x, y := some(noise(1), 22), patched(some(noise(1), 22), 9, of("y", 5))
	id := b.holding(x)
	only, other := b.snapshot(id), b.holding(y+of("x", 1))
	snap := b.snapshot(other)
	bad := sealed(body(y, x, nil)) // neither its base nor its target
	b.keeps("no stream, no volume", 9, "no stream", api.ErrSum)
	b.keeps("no stream, to be read only", only, "", api.ErrEnd)
	b.keeps("no stream, another size", other, sealed("SBDF\x02"), api.ErrForm)
	b.keeps("to be read only, another size", snap, bad, api.ErrOnly)
	b.keeps("to be read only, another base", only, bad, api.ErrOnly)
	b.keeps("another size, another base", other, bad, api.ErrSize)
	b.keeps("another base, another target", id, bad, api.ErrBase)
}

// unlike: an extent by noise whose address of one bit is this.
func unlike(next func(int) int, address byte) string {
	for {
		s := some(next, 4)
		if h := sha256.Sum256([]byte(s)); h[0]>>7 == address {
			return s
		}
	}
}

// P22.1, P3: two unlike extents with one address: item by item, so that one that an item ahead takes out is in
// nobody's way, and one that an item behind takes out is.
func TestImportClash(t *testing.T) {
	next := noise(1)
	a, b, c := unlike(next, 0), unlike(next, 0), unlike(next, 1)
	none := noughts(256)
	for _, x := range []struct {
		was, now string
		want     api.Errno
	}{
		{a + none, b + none, api.ErrClash}, // an item's new extent is put ahead of what goes
		{a + none, none + b, api.OK},
		{none + a, b + none, api.ErrClash},
		{a + none + c, none + b + c, api.OK},
		{a + none + a, none + b + none, api.ErrClash},
		{a + a + none, none + none + b, api.OK},
		{c + none, c + a, api.OK},
		{none + none, a + b, api.ErrClash},
		{none + none, a + c, api.OK},
		{none + none, a + a, api.OK},
	} {
		box := newBox(t, 200, 1)
		id := box.create(len(x.was) / 64)
		for at := 0; at < len(x.was); at += 256 {
			box.write(id, at/64, x.was[at:at+256])
		}
		if x.want != api.OK {
			box.keeps("a clash", id, between(x.was, x.now), x.want)
		} else {
			box.imports("no clash", id, between(x.was, x.now), x.now)
		}
	}
	box := newBox(t, 200, 1)
	box.holding(a)
	id := box.create(8)
	box.keeps("another volume's is in the way", id, between(none+none, none+b), api.ErrClash)
	box.imports("another volume has it, too", id, between(none+none, c+a), c+a)
}

// P22.1: no room, in the first item, or a later one.
func TestImportSpace(t *testing.T) {
	b := newBox(t, 60, 256)
	x := some(noise(1), 8)
	id := b.holding(x + noughts(192*64))
	was, full := b.read(id), 0
	for n := 4; n < 192; n += 4 {
		y := patched(was, 8, some(noise(uint64(n)), n))
		c := over(t, b.d.Clone())
		if e := ship.Import(c.a, id, between(was, y)); e == api.OK {
			c.has("room", id, y)
			continue
		} else if e != api.ErrSpace {
			t.Fatalf("Import: %d", e)
		}
		full++
		b.keeps("no room", id, between(was, y), api.ErrSpace)
	}
	if full < 30 {
		t.Errorf("no room %d times alone", full)
	}
	y := patched(was, 0, noughts(8*64))
	b.imports("less", id, between(was, y), y)
}

// P22.1: the errors of what is read while an Import runs, and of the checkpoint behind it.
func TestImportSpoilt(t *testing.T) {
	b := newBox(t, 300, 256)
	x := some(noise(1), 30)
	y := patched(x, 6, of("y", 3))
	id := b.holding(x)
	b.works(b.a.Checkpoint())
	text := between(x, y)
	info, _ := b.a.Info(id)
	maps := b.a.Store().Maps
	l := []int{info.Root, b.a.Store().Super.Head}
	b.works(b.a.Store().Heap.Try(func() { l = append(l, maps.Load(info.Root, 2).Kids[0], maps.Get(info.Root, 1)) }))
	for _, at := range l {
		b.spoil(at)
		was := b.state()
		if e := ship.Import(b.a, id, text); e != api.ErrSum || !b.state().same(was) {
			t.Errorf("Import with sector %d spoilt: %d", at, e)
		}
		b.spoil(at)
		b.has("whole again", id, x)
	}
	b.imports("whole again", id, text, y)
}

// P22.1: an extent whose sectors are spoilt may be written over: nothing is left of it.
func TestImportOverSpoilt(t *testing.T) {
	b := newBox(t, 300, 256)
	x := some(noise(1), 30)
	y := patched(x, 4, of("y", 3))
	id := b.holding(x)
	b.works(b.a.Checkpoint())
	info, _ := b.a.Info(id)
	maps := b.a.Store().Maps
	b.works(b.a.Store().Heap.Try(func() { b.spoil(maps.Extents.Parts(maps.Get(info.Root, 1))[2]) }))
	if _, e := b.a.Read(id, 4, 4); e != api.ErrSum {
		t.Fatalf("Read: %d", e)
	}
	b.works(ship.Import(b.a, id, between(x, y)))
	b.has("written over", id, y)
}

// P22.1: behind the last epoch there is no checkpoint: nothing has changed.
func TestImportLastEpoch(t *testing.T) {
	d := newBox(t, 100, 256).d
	s := super.Super{Epoch: 1<<32 - 2, Journal: 40, Bits: 256, Next: 5}
	b := &box{t: t, d: d}
	b.works(pack.Guard(func() { s.Write(d); d.Sync() }))
	b = over(t, d)
	id := b.create(9)
	x, y := noughts(9*64), of("y", 9)
	b.keeps("the last epoch", id, between(x, y), api.ErrArg)
	b.has("the last epoch", id, x)
}

// P22.3: what stood in the journal ahead of an Import is done with it, and not once more.
func TestImportBehindOps(t *testing.T) {
	b := newBox(t, 300, 256)
	x := some(noise(1), 10)
	id := b.holding(x)
	b.works(b.a.Checkpoint())
	b.write(id, 3, of("w", 2))
	b.clone(id)
	now := b.read(id)
	y := patched(now, 3, noughts(2*64))
	b.imports("behind ops", id, between(now, y), y)
	b.has("the clone", 2, now)
	b.write(id, 3, of("v", 1))
	c := b.again(whole(b.d)...)
	c.has("an op behind it", id, patched(y, 3, of("v", 1)))
	c.has("the clone", 2, now)
}

// P22.1: Import hangs on what it is handed, however often it is.
func TestImportTwice(t *testing.T) {
	b := newBox(t, 300, 256)
	x := some(noise(1), 10)
	text := between(noughts(640), x)
	for range 3 {
		id := b.create(10)
		b.imports("the same one", id, text, x)
		b.keeps("once more", id, text, api.ErrBase)
	}
	if n := b.a.Store().Maps.Extents.Count(); n != 3 {
		t.Errorf("%d extents", n)
	}
	b.write(1, 0, noughts(640))
	b.imports("again", 1, text, x)
}

// P22.1, P7: whatever bytes: an error, and nothing has changed.
func TestImportNoise(t *testing.T) {
	next := noise(3)
	b := newBox(t, 300, 256)
	x := some(next, 7)
	id := b.holding(x)
	for range 300 {
		s := some(next, 1)[:next(64)]
		want := api.ErrSum
		if len(s) < 4 {
			want = api.ErrEnd
		}
		b.keeps("noise", id, s, want)
		if e := ship.Import(b.a, id, sealed("SBDF\x01\x00\x07"+digest(x)+s)); e == api.OK {
			t.Errorf("Import of noise")
		}
	}
	b.keeps("noughts", id, noughts(200), api.ErrSum)
	b.keeps("much", id, strings.Repeat("SBDF\x01", 99999), api.ErrSum)
	b.has("noise", id, x)
}

// P22.1, P7: each byte of a stream, with its sum, is another one.
func TestImportMangled(t *testing.T) {
	b := newBox(t, 300, 256)
	x := some(noise(1), 7)
	y := patched(patched(x, 0, noughts(256)), 5, of("y", 1))
	id := b.holding(x)
	b.works(b.a.Checkpoint())
	s := body(x, y, differ(x, y))
	seen := map[api.Errno]int{}
	for at := range len(s) {
		for _, with := range []byte{1, 0x80, 0xff} {
			bad := []byte(s)
			bad[at] ^= with
			was := b.state()
			e := ship.Import(b.a, id, sealed(string(bad)))
			if e == api.OK || !b.state().same(was) {
				t.Fatalf("byte %d: Import: %d", at, e)
			}
			seen[e]++
		}
	}
	b.has("mangled", id, x)
	if seen[api.ErrBase] != 3*32 || seen[api.ErrSum] < 3*32+300 || seen[api.ErrForm] < 10 || seen[api.ErrSize] < 3 {
		t.Errorf("Import: %v", seen)
	}
	b.imports("whole", id, sealed(s), y)
}

// whole: cuts by which nothing is torn.
func whole(d *disk.Disk) []int {
	var l []int
	for range d.Len() {
		l = append(l, 64)
	}
	return l
}
