package block_test

import (
	"testing"

	"stereobate/api"
	"stereobate/block"
	"stereobate/catalog"
	"stereobate/crc"
	"stereobate/disk"
	"stereobate/extent"
	"stereobate/node"
	"stereobate/pack"
	"stereobate/redo"
	"stereobate/ring"
	"stereobate/sha"
	"stereobate/store"
	"stereobate/super"
)

// P19.1: records that stand in the journal, whoever wrote them: they are done, one behind the other, up to the
// first one that answers an error.
func TestRecords(t *testing.T) {
	create := redo.Op{Kind: redo.Create, N: 5}.Bytes()
	write := written(1, 2, sector("text")).Bytes()
	for _, c := range []struct {
		what    string
		records []string
		sizes   []int // of the volumes that are there
	}{
		{"none", nil, nil},
		{"ops", []string{create, write, redo.Op{Kind: redo.Clone, ID: 1}.Bytes(), redo.Op{Kind: redo.Resize, ID: 2, N: 7}.Bytes()}, []int{5, 7}},
		{"none such", []string{create, redo.Op{Kind: redo.Delete, ID: 2}.Bytes(), create, create}, []int{5}},
		{"none such at first", []string{write, create}, nil},
		{"out of its range", []string{create, written(1, 5, sector("x")).Bytes(), create}, []int{5}},
		{"no whole sector", []string{create, create, written(1, 0, "x").Bytes(), create}, []int{5, 5}},
		{"an argument", []string{create, redo.Op{Kind: redo.Create}.Bytes(), create}, []int{5}},
		{"to be read only", []string{create, redo.Op{Kind: redo.Snapshot, ID: 1}.Bytes(), redo.Op{Kind: redo.Trim, ID: 2}.Bytes(), create}, []int{5, 5}},
		{"no room", []string{create, redo.Op{Kind: redo.Resize, ID: 1, N: 60}.Bytes(), written(1, 0, some(noise(1), 40*64)).Bytes(), create}, []int{60}},
	} {
		d := formatted(t, 50, 200, 256)
		layRecords(t, d, 200, 1, c.records...)
		b := over(t, d)
		l := b.a.Entries()
		for i, x := range l {
			if i >= len(c.sizes) || x.Size != c.sizes[i] || x.Born != 1 {
				t.Errorf("%s: %+v", c.what, l)
			}
		}
		if len(l) != len(c.sizes) || b.epoch() != 2 {
			t.Errorf("%s: %+v, epoch %d", c.what, l, b.epoch())
		}
		b.again().is(c.what, b.view())
	}
	d := formatted(t, 100, 200, 1)
	layRecords(t, d, 200, 1, redo.Op{Kind: redo.Create, N: 50}.Bytes())
	for i, s := range unlike(3) {
		layRecords(t, d, 200, 1, redo.Op{Kind: redo.Create, N: 50}.Bytes(), written(1, 0, s).Bytes())
		b := over(t, d.Clone())
		if x, e := b.a.Read(1, 0, 4); e != api.OK || x != s {
			t.Errorf("%d: Read: %q, %d", i, x, e)
		}
	}
	l := unlike(3)
	layRecords(t, d, 200, 1, redo.Op{Kind: redo.Create, N: 50}.Bytes(), written(1, 0, l[0]).Bytes(), written(1, 4, l[1]).Bytes(), written(1, 8, l[2]).Bytes(), create)
	if b := over(t, d); len(b.a.Entries()) != 1 || b.a.Store().Maps.Extents.Count() != 2 {
		t.Errorf("a clash: %+v", b.a.Entries())
	}
}

// P19.1: records that say nothing: layer 17's errors, ahead of the checkpoint; the disk is as it was.
func TestRecordsOfNoOp(t *testing.T) {
	create := redo.Op{Kind: redo.Create, N: 5}.Bytes()
	for _, c := range []struct {
		records []string
		want    api.Errno
	}{
		{[]string{""}, api.ErrEnd}, {[]string{"x"}, api.ErrEnd}, {[]string{create[:8]}, api.ErrEnd}, {[]string{create, create[:3], create}, api.ErrEnd},
		{[]string{noughts(9)}, api.ErrKind}, {[]string{"\x08" + create[1:]}, api.ErrKind}, {[]string{create, some(noise(1), 100)}, api.ErrKind},
		{[]string{create, redo.Op{Kind: redo.Delete, ID: 9}.Bytes(), ""}, api.OK}, // that isn't read any more
	} {
		d := formatted(t, 50, 200, 256)
		layRecords(t, d, 200, 1, c.records...)
		was := d.Clone()
		a, e := block.Mount(d)
		if e != c.want || (a != nil) != (e == api.OK) {
			t.Errorf("Mount of %q: %v, %d, not %d", c.records, a, e, c.want)
		}
		if e != api.OK {
			alike(t, "Mount", d, was)
		}
	}
}

// P19.1: of the journal only frames of the last checkpoint's epoch are read, as far as they stand one behind the
// other, and records that are whole.
func TestRecordsOfOthers(t *testing.T) {
	create := redo.Op{Kind: redo.Create, N: 5}.Bytes()
	for _, epoch := range []uint32{0, 3, 1 << 31} {
		d := formatted(t, 50, 8, 256)
		layRecords(t, d, 8, epoch, create)
		if l := over(t, d).a.Entries(); len(l) != 0 {
			t.Errorf("frames of epoch %d: %+v", epoch, l)
		}
	}
	d := formatted(t, 50, 8, 256)
	layRecords(t, d, 8, 1, create, create, written(1, 0, sector("x")).Bytes(), create)
	for at, want := range []int{0, 1, 2, 2, 2, 3} {
		c := d.Clone()
		spoil(c, 2+at)
		if l := over(t, c).a.Entries(); len(l) != want {
			t.Errorf("the frame %d is spoilt: %+v", at, l)
		}
	}
}

// P19.1: a cut of the power while a record is done once more is Mount's error; those that touch no disk aren't cut.
func TestReplayCut(t *testing.T) {
	create := redo.Op{Kind: redo.Create, N: 5}.Bytes()
	d := formatted(t, 50, 20, 256)
	layRecords(t, d, 20, 1, create, written(1, 0, sector("x")).Bytes(), redo.Op{Kind: redo.Delete, ID: 9}.Bytes())
	for n := range 9 {
		c := d.Clone()
		c.Arm(n)
		fails(t, "a cut", c, api.ErrCut)
		c.Crash(whole(c)...)
		if l := over(t, c).a.Entries(); len(l) != 1 {
			t.Errorf("Mount: %+v", l)
		}
	}
}

// sealed: bytes and the sum behind them, as a sector (layers 11, 12 and 15).
func sealed(text string) string {
	text += noughts(60 - len(text))
	return text + new(pack.Out).Num(uint64(crc.Sum(text)), 4).Bytes()
}

// anything: a sector of any kind that is whole, and says anything, most often of sectors of a heap.
func anything(next func(int) int, from, n int) string {
	at := func() int {
		if next(3) == 0 {
			return 0
		}
		return from + next(n+next(3))
	}
	switch next(4) {
	case 0:
		x := catalog.Entry{ID: uint32(1 + next(6)), Only: next(3) == 0, Size: 1 + next(60), Root: at(), Born: uint32(next(9))}
		return x.Bytes(at())
	case 1:
		x := extent.Head{Sum: sha.Of(string(rune('a' + next(9))))}
		for i := range x.At {
			x.At[i] = at()
		}
		return x.Bytes()
	case 2:
		x := node.Node{Level: next(3), Sum: sha.Of(string(rune('a' + next(9))))}
		for i := range x.Kids {
			x.Kids[i] = at()
		}
		return x.Bytes()
	}
	return sealed("NEV"[next(3):][:1] + string(rune(next(3))) + some(next, 56))
}

// record: of any op, or of none.
func record(next func(int) int) string {
	if next(30) == 0 {
		return some(next, next(99))
	}
	o := redo.Op{Kind: 1 + next(7), ID: uint32(1 + next(5)), At: next(9), N: 1 + next(9)}
	if o.Kind == redo.Write {
		o.Data = some(next, 64*next(5))
	}
	return o.Bytes()
}

// P1, P19.1: whatever stands on a disk, in sectors that are whole: Mount answers an archive, or an error, and each
// call of it ends, too.
func TestAnyBytes(t *testing.T) {
	next := noise(41)
	seen := map[api.Errno]int{}
	lived := newBox(t, 80, 20, 256)
	lived.create(40)
	lived.fill(1, 0, 20, 1)
	lived.made(redo.Op{Kind: redo.Clone, ID: 1})
	lived.fill(2, 5, 9, 2)
	lived.works(lived.a.Checkpoint())
	for i := range 800 {
		d := disk.New(62)
		if i%2 == 0 {
			for at := 22; at < d.Len(); at++ {
				lay(t, d, at, anything(next, 22, 2+next(30)))
			}
			laySuper(t, d, super.Super{Epoch: uint32(1 + next(9)), Journal: 20, Bits: 1 + next(256), Head: []int{0, 22 + next(32)}[next(2)], Next: uint32(1 + next(9))})
		} else {
			d = lived.d.Clone()
			held := lived.a.Store().Heap.All()
			for range next(3) {
				lay(t, d, held[next(len(held))], anything(next, 22, 80))
			}
		}
		var s super.Super
		pack.Guard(func() { s = super.Read(d) })
		var l []string
		for n := 0; n < 20; {
			x := record(next)
			if n += ring.Cost(len(x)); n <= 20 {
				l = append(l, x)
			}
		}
		layRecords(t, d, 20, s.Epoch, l...)
		seen[tried(t, next, d)]++
	}
	for _, e := range []api.Errno{api.OK, api.ErrForm, api.ErrKind} {
		if seen[e] < 20 {
			t.Errorf("Mount: %v", seen)
		}
	}
}

// tried: any calls of an archive of any bytes, if there is one.
func tried(t *testing.T, next func(int) int, d *disk.Disk) api.Errno {
	a, e := block.Mount(d)
	if e != api.OK {
		if a != nil {
			t.Errorf("Mount: %v, %d", a, e)
		}
		return e
	}
	p := &play{box: &box{t, d, a, 20}, next: next, texts: []string{noughts(256), some(next, 256)}, seen: map[string]int{}}
	for range 30 {
		a.Do(p.op())
		for _, x := range a.Entries() {
			a.Read(x.ID, 0, x.Size)
			a.Sum(x.ID)
		}
		switch next(8) {
		case 0:
			a.Checkpoint()
		case 1:
			a.Change(func(s *store.Store) { p.op().Do(s.Core) })
		case 2:
			a.Flush()
		}
	}
	if a.Dead() {
		t.Error("Dead")
	}
	v := len(a.Entries())
	if a.Checkpoint() == api.OK {
		if c, e := block.Mount(d.Clone()); e == api.OK && len(c.Entries()) != v {
			t.Errorf("Mount: %+v, not %d", c.Entries(), v)
		}
	}
	return api.OK
}
