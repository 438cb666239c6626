package redo_test

import (
	"encoding/binary"
	"maps"
	"slices"
	"strings"
	"testing"

	"stereobate/api"
	"stereobate/catalog"
	"stereobate/core"
	"stereobate/disk"
	"stereobate/heap"
	"stereobate/pack"
	"stereobate/redo"
)

const (
	most  = 1<<63 - 1
	least = -1 << 63
)

// noise: numbers below n, the same ones of the same seed.
func noise(seed uint64) func(n int) int {
	return func(n int) int {
		seed = seed*6364136223846793005 + 1442695040888963407
		return int((seed >> 33) % uint64(n))
	}
}

// some: so many bytes of noise.
func some(next func(int) int, n int) string {
	b := make([]byte, n)
	for i := range b {
		b[i] = byte(next(256))
	}
	return string(b)
}

// laid: an op's bytes by the document's words, built otherwise: each at its place.
func laid(o redo.Op) string {
	b := []byte{byte(o.Kind)}
	b = binary.BigEndian.AppendUint32(b, o.ID)
	b = binary.BigEndian.AppendUint16(b, uint16(o.At))
	b = binary.BigEndian.AppendUint16(b, uint16(o.N))
	return string(b) + o.Data
}

// parse: what Parse answers within a Guard, and how it failed.
func parse(s string) (redo.Op, api.Errno) {
	var o redo.Op
	e := pack.Guard(func() { o = redo.Parse(s) })
	return o, e
}

// same: an op's bytes, and the op out of them.
func same(t *testing.T, o redo.Op) {
	t.Helper()
	s := o.Bytes()
	if s != laid(o) {
		t.Fatalf("Bytes of %+v: % x", o, s)
	}
	if got, e := parse(s); e != api.OK || got != o {
		t.Fatalf("Parse of the bytes of %+v: %+v, %d", o, got, e)
	}
}

// refused: Parse fails so, and answers nothing.
func refused(t *testing.T, s string, want api.Errno) {
	t.Helper()
	if o, e := parse(s); e != want || o != (redo.Op{}) {
		t.Errorf("Parse of % x: %+v, %d, not %d", s, o, e, want)
	}
}

// P17.1: the document's example, and each part at its place.
func TestBytes(t *testing.T) {
	if s := (redo.Op{Kind: redo.Delete, ID: 3}).Bytes(); s != "\x04\x00\x00\x00\x03\x00\x00\x00\x00" {
		t.Errorf("Bytes: % x", s)
	}
	o := redo.Op{Kind: redo.Write, ID: 0x01020304, At: 0x0506, N: 0x0708, Data: "data"}
	if s := o.Bytes(); s != "\x06\x01\x02\x03\x04\x05\x06\x07\x08data" {
		t.Errorf("Bytes: % x", s)
	}
}

// P17.1: the kinds' numbers.
func TestKinds(t *testing.T) {
	l := []int{redo.Create, redo.Snapshot, redo.Clone, redo.Delete, redo.Resize, redo.Write, redo.Trim}
	if !slices.Equal(l, []int{1, 2, 3, 4, 5, 6, 7}) {
		t.Errorf("kinds: %v", l)
	}
}

// P17.1: of numbers that don't fit the lowest bits.
func TestBytesLow(t *testing.T) {
	for _, n := range []int{least, -1, -2, 256, 65535, 65536, 65537, 1<<32 + 7, most} {
		for _, o := range []redo.Op{{Kind: n}, {Kind: 1, At: n}, {Kind: 1, N: n}, {Kind: n, At: n, N: n, Data: "x"}} {
			if s := o.Bytes(); s != laid(o) {
				t.Errorf("Bytes of %+v: % x", o, s)
			}
		}
	}
}

// P17.2: each number at the ends of what fits, each kind, any data.
func TestThereAndBack(t *testing.T) {
	next := noise(1)
	for kind := 1; kind <= 7; kind++ {
		same(t, redo.Op{Kind: kind})
		for bit := range 33 {
			same(t, redo.Op{Kind: kind, ID: uint32(1<<bit - 1)})
			same(t, redo.Op{Kind: kind, ID: uint32(1) << (bit % 32)})
		}
		for n := range 65536 {
			if n < 300 || n > 65300 || n%509 == 0 {
				same(t, redo.Op{Kind: kind, At: n})
				same(t, redo.Op{Kind: kind, N: n})
			}
		}
		for n := range 300 {
			same(t, redo.Op{Kind: kind, Data: some(next, n)})
			same(t, redo.Op{Kind: kind, Data: strings.Repeat("\x00", n)})
		}
		for range 500 {
			same(t, redo.Op{Kind: kind, ID: uint32(next(1<<16)<<16 | next(1<<16)), At: next(65536), N: next(65536), Data: some(next, next(20))})
		}
	}
	same(t, redo.Op{Kind: redo.Write, ID: 1, Data: some(next, 2048*64)})
}

// P17.1: what is too short, whatever its kind; kinds that there aren't; of both the first.
func TestParse(t *testing.T) {
	next := noise(2)
	for kind := range 256 {
		for n := range 8 {
			refused(t, string([]byte{byte(kind)})+some(next, n), api.ErrEnd)
		}
		for _, n := range []int{8, 9, 100} {
			s := string([]byte{byte(kind)}) + some(next, n)
			if kind < 1 || kind > 7 {
				refused(t, s, api.ErrKind)
			} else if o, e := parse(s); e != api.OK || laid(o) != s || o.Kind != kind || len(o.Data) != n-8 {
				t.Errorf("Parse of % x: %+v, %d", s, o, e)
			}
		}
	}
	refused(t, "", api.ErrEnd)
}

// pair is two cores with the same volumes.
type pair struct {
	t        *testing.T
	one, two *core.Core
	errors   map[api.Errno]int
}

func newPair(t *testing.T, n int) *pair {
	other := func() *core.Core { return core.New(heap.New(disk.New(n), 2), 4, 1) }
	return &pair{t, other(), other(), map[api.Errno]int{}}
}

// state is what can be seen of a core.
func state(c *core.Core) ([]catalog.Entry, map[uint32]string, []int) {
	texts := map[uint32]string{}
	for _, x := range c.Entries() {
		s, e := c.Read(x.ID, 0, x.Size)
		if e != api.OK {
			s = "not read"
		}
		texts[x.ID] = s
	}
	return c.Entries(), texts, c.Heap.All()
}

// do: an op of the one, the same call of the other one: the same answers, and the same volumes.
func (p *pair) do(o redo.Op) {
	p.t.Helper()
	id, e := uint32(0), api.OK
	switch o.Kind {
	case 1:
		id, e = p.one.Create(o.N)
	case 2:
		id, e = p.one.Snapshot(o.ID)
	case 3:
		id, e = p.one.Clone(o.ID)
	case 4:
		e = p.one.Delete(o.ID)
	case 5:
		e = p.one.Resize(o.ID, o.N)
	case 6:
		e = p.one.Write(o.ID, o.At, o.Data)
	case 7:
		e = p.one.Trim(o.ID, o.At, o.N)
	default:
		e = api.ErrKind
	}
	p.errors[e]++
	was := o
	if got, f := o.Do(p.two); got != id || f != e {
		p.t.Fatalf("Do of %+v: %d, %d, not %d, %d", o, got, f, id, e)
	}
	if o != was {
		p.t.Errorf("behind Do: %+v", o)
	}
	p.same(o)
}

func (p *pair) same(o redo.Op) {
	p.t.Helper()
	x, xs, xl := state(p.one)
	y, ys, yl := state(p.two)
	if !slices.Equal(x, y) || !maps.Equal(xs, ys) || !slices.Equal(xl, yl) || p.one.Next() != p.two.Next() {
		p.t.Fatalf("behind Do of %+v: %+v, not %+v", o, y, x)
	}
}

// P17.1: each op by itself: what it takes of the op's parts, and what not.
func TestDo(t *testing.T) {
	p := newPair(t, 200)
	sectors := strings.Repeat("q", 128)
	for _, o := range []redo.Op{
		{Kind: redo.Create, ID: 9, At: 5, N: 10, Data: "nothing of it"},
		{Kind: redo.Write, ID: 1, At: 3, N: 99, Data: sectors},
		{Kind: redo.Snapshot, ID: 1, At: -1, N: 7, Data: "likewise"},
		{Kind: redo.Clone, ID: 2, At: 7, N: -1, Data: "likewise"},
		{Kind: redo.Trim, ID: 3, At: 3, N: 1, Data: sectors},
		{Kind: redo.Resize, ID: 1, At: 99, N: 4, Data: sectors},
		{Kind: redo.Resize, ID: 2, N: 4},
		{Kind: redo.Write, ID: 2, Data: sectors},
		{Kind: redo.Write, ID: 1, At: 3, Data: sectors},
		{Kind: redo.Write, ID: 1, Data: "x"},
		{Kind: redo.Write, ID: 1, At: least, Data: sectors},
		{Kind: redo.Trim, ID: 3, At: 1, N: most},
		{Kind: redo.Create},
		{Kind: redo.Create, N: most},
		{Kind: redo.Snapshot},
		{Kind: redo.Clone, ID: 1<<32 - 1},
		{Kind: redo.Delete, ID: 2, At: 5, N: 5, Data: "likewise"},
		{Kind: redo.Delete, ID: 2},
		{Kind: redo.Write, ID: 3, At: 10},
	} {
		p.do(o)
	}
	for _, kind := range []int{0, 8, -1, 9, 255, 256, 257, 262, 1 << 32, 1<<32 + 4, least, most} {
		p.do(redo.Op{Kind: kind, ID: 1, At: 1, N: 1, Data: sectors[:64]})
	}
	if l := p.two.Entries(); len(l) != 2 || l[0].Size != 4 || l[1].ID != 3 || l[1].Parent != 2 || l[1].Only {
		t.Errorf("Entries: %+v", l)
	}
	s, e := p.two.Read(3, 3, 2)
	if e != api.OK || s != strings.Repeat("\x00", 64)+sectors[:64] {
		t.Errorf("Read: %q, %d", s, e)
	}
}

// P17.1: sixteen volumes, and no room: the calls' own errors.
func TestDoFull(t *testing.T) {
	p := newPair(t, 40)
	for range 17 {
		p.do(redo.Op{Kind: redo.Create, N: 9})
		p.do(redo.Op{Kind: redo.Snapshot, ID: 1})
		p.do(redo.Op{Kind: redo.Clone, ID: 1})
	}
	next := noise(3)
	for range 20 {
		p.do(redo.Op{Kind: redo.Write, ID: 1, At: next(9), Data: some(next, 64)})
	}
	if p.errors[api.ErrFull] == 0 || p.errors[api.ErrSpace] == 0 {
		t.Errorf("errors: %v", p.errors)
	}
}

// P17.1, P17.2: any ops, each done out of its bytes.
func TestDoAny(t *testing.T) {
	for seed := range uint64(8) {
		p, next := newPair(t, 150), noise(seed)
		texts := []string{"", some(next, 64), some(next, 64), strings.Repeat("\x00", 64), "x", some(next, 256)}
		for range 300 {
			o := redo.Op{Kind: 1 + next(8), ID: uint32(next(int(p.one.Next()) + 1)), At: next(14), N: next(14)}
			for range next(4) {
				o.Data += texts[next(len(texts))]
			}
			if o.Kind < 8 {
				got, e := parse(o.Bytes())
				if e != api.OK {
					t.Fatalf("Parse: %d", e)
				}
				o = got
			}
			p.do(o)
		}
		if p.errors[api.OK] < 30 || p.errors[api.ErrNone] == 0 || p.errors[api.ErrKind] == 0 {
			t.Errorf("errors: %v", p.errors)
		}
	}
}

// P17.1: without power.
func TestDoCut(t *testing.T) {
	c := core.New(heap.New(disk.New(60), 2), 256, 1)
	redo.Op{Kind: redo.Create, N: 9}.Do(c)
	redo.Op{Kind: redo.Write, ID: 1, Data: strings.Repeat("q", 64)}.Do(c)
	c.Heap.Disk.Arm(0)
	for _, o := range []redo.Op{{Kind: redo.Write, ID: 1, Data: strings.Repeat("r", 64)}, {Kind: redo.Trim, ID: 1, N: 1}, {Kind: redo.Resize, ID: 1, N: 0}, {Kind: redo.Delete, ID: 1}} {
		want := api.ErrCut
		if o.Kind == redo.Resize {
			want = api.ErrArg
		}
		if id, e := o.Do(c); id != 0 || e != want {
			t.Errorf("Do of %+v: %d, %d, not %d", o, id, e, want)
		}
	}
}
