package extent_test

import (
	"crypto/sha256"
	"maps"
	"math"
	"slices"
	"testing"

	"stereobate/api"
	"stereobate/pack"
	"stereobate/sha"
)

// cell is what a sector is, if it isn't free.
type cell struct {
	refs  int // 0: it is late
	young bool
	gone  bool // it was young when it was let go
}

// kept is an extent.
type kept struct {
	data  string
	parts []int
}

// model is a store and its heap by the document's words: each Try begins with a copy of all.
type model struct {
	cells   map[int]cell
	extents map[int]kept // by its head
	keep    int
}

func (m model) clone() model {
	return model{maps.Clone(m.cells), maps.Clone(m.extents), m.keep}
}

// held: which sectors are wanted, rising.
func (m model) held() []int {
	var l []int
	for at, c := range m.cells {
		if c.refs > 0 {
			l = append(l, at)
		}
	}
	slices.Sort(l)
	return l
}

// play is a store and its model.
type play struct {
	*box
	next     func(int) int
	from, to int
	bits     int
	want     model
	left     int      // calls that are made yet
	power    int      // writes that work yet
	words    []string // of which extents are made, so that the same ones come again
	seen     map[string]int
}

func newPlay(t *testing.T, seed uint64, n, from, bits, calls int) *play {
	p := &play{box: newBox(t, n, from, bits), next: noise(seed), from: from, to: n, bits: bits, left: calls, power: math.MaxInt, seen: map[string]int{}}
	p.want = model{cells: map[int]cell{}, extents: map[int]kept{}}
	for range 12 {
		var s [4]string
		for i := range s {
			if p.next(3) > 0 {
				s[i] = some(p.next, 1+p.next(64))
			}
		}
		p.words = append(p.words, data(s[0], s[1], s[2], s[3]))
	}
	p.words = append(p.words, noughts(256), noughts(255), "short")
	return p
}

// address: by the library's sum, bit by bit.
func (p *play) address(s string) string {
	sum := sha256.Sum256([]byte(s))
	a := ""
	for i := range p.bits {
		a += string(rune('0' + sum[i/8]>>(7-i%8)&1))
	}
	return a
}

// sector: the model's Put of one, of those that are free the least.
func (p *play) sector() (int, api.Errno) {
	if p.to-p.from-len(p.want.cells) <= p.want.keep {
		return 0, api.ErrSpace
	}
	if p.power >= 0 {
		p.power--
	}
	if p.power < 0 {
		return 0, api.ErrCut
	}
	at := p.from
	for _, taken := p.want.cells[at]; taken; _, taken = p.want.cells[at] {
		at++
	}
	p.want.cells[at] = cell{refs: 1, young: true}
	return at, api.OK
}

// put: what the model says of a Put; with an error nothing has changed but the power.
func (p *play) put(s string) (int, api.Errno) {
	if len(s) != 256 {
		return 0, api.ErrArg
	}
	if s == noughts(256) {
		return 0, api.OK
	}
	for at, x := range p.want.extents {
		if p.address(x.data) != p.address(s) {
			continue
		}
		if p.power < 0 {
			return 0, api.ErrCut
		}
		if x.data != s {
			return 0, api.ErrClash
		}
		p.more(at)
		return at, api.OK
	}
	was, x := p.want.clone(), kept{data: s}
	for i := range 5 {
		if i < 4 && s[64*i:64*i+64] == noughts(64) {
			continue
		}
		at, e := p.sector()
		if e != api.OK {
			p.want = was
			return 0, e
		}
		if i == 4 {
			p.want.extents[at] = x
			return at, api.OK
		}
		x.parts = append(x.parts, at)
	}
	return 0, api.OK
}

func (p *play) more(at int) {
	c := p.want.cells[at]
	c.refs++
	p.want.cells[at] = c
}

// drop: the model's Less of a sector.
func (p *play) drop(at int) bool {
	c := p.want.cells[at]
	c.refs--
	if c.refs == 0 {
		c.gone, c.young = c.young, false
	}
	p.want.cells[at] = c
	return c.refs == 0
}

// less: what the model says of a Less.
func (p *play) less(at int) api.Errno {
	if at == 0 {
		return api.OK
	}
	if p.power < 0 {
		return api.ErrCut
	}
	if p.drop(at) {
		for _, part := range p.want.extents[at].parts {
			p.drop(part)
		}
		delete(p.want.extents, at)
	}
	return api.OK
}

// at: the head of one that is kept, or 0.
func (p *play) at() int {
	l := slices.Sorted(maps.Keys(p.want.extents))
	if len(l) == 0 || p.next(12) == 0 {
		return 0
	}
	return l[p.next(len(l))]
}

// looks: the calls that change nothing.
func (p *play) looks(at int) (func(), api.Errno) {
	x, want := p.want.extents[at], api.OK
	sum := sha.Sum(sha256.Sum256([]byte(x.data)))
	if at == 0 {
		x.data, sum = noughts(256), sha.Sum{}
	} else if p.power < 0 {
		want = api.ErrCut
	}
	switch p.next(3) {
	case 0:
		return func() {
			if s := p.x.Get(at); s != x.data {
				p.t.Fatalf("Get(%d): %q, not %q", at, s, x.data)
			}
		}, want
	case 1:
		return func() {
			if s := p.x.Sum(at); s != sum {
				p.t.Fatalf("Sum(%d): %s", at, s.Hex())
			}
		}, want
	}
	return func() {
		if l := p.x.Parts(at); !slices.Equal(l, x.parts) {
			p.t.Fatalf("Parts(%d): %v, not %v", at, l, x.parts)
		}
	}, want
}

// call: one of both, within a Try: the call, and the error that it must have.
func (p *play) call() (run func(), want api.Errno) {
	switch p.next(10) {
	case 0, 1, 2, 3:
		s := p.words[p.next(len(p.words))]
		wantAt, e := p.put(s)
		return func() {
			if at := p.x.Put(s); at != wantAt {
				p.t.Fatalf("Put: %d, not %d", at, wantAt)
			}
		}, e
	case 4, 5, 6:
		at := p.at()
		return func() { p.x.Less(at) }, p.less(at)
	case 7:
		at := p.at()
		if at != 0 {
			p.more(at)
		}
		return func() { p.x.More(at) }, api.OK
	case 8:
		return p.looks(p.at())
	}
	n := p.next(5) - 2
	p.want.keep = max(n, 0)
	return func() { p.h.Keep(n) }, api.OK
}

// some: calls, and Tries, one behind the other; the error with which they must fail.
func (p *play) some(deep int, end *api.Errno) {
	for n := p.next(9); n > 0 && p.left > 0; n-- {
		p.left--
		if deep < 4 && p.next(4) == 0 {
			p.try(deep)
			continue
		}
		run, want := p.call()
		p.note(want)
		if p.next(2) == 0 {
			*end = want
			run()
			if want != api.OK {
				p.t.Fatalf("a call that must fail with %d", want)
			}
		} else if e := pack.Guard(run); e != want {
			p.t.Fatalf("a call: %d, not %d", e, want)
		}
		p.same()
	}
}

// note: which errors there were, so that it is seen whether all are tried.
func (p *play) note(e api.Errno) {
	switch e {
	case api.OK:
		p.seen["works"]++
	case api.ErrSpace:
		p.seen["no room"]++
	case api.ErrClash:
		p.seen["clash"]++
	case api.ErrCut:
		p.seen["no power"]++
	}
}

// try: a Try of both, with some calls and Tries within.
func (p *play) try(deep int) {
	was, end := p.want.clone(), api.OK
	e := p.h.Try(func() {
		p.some(deep+1, &end)
		if p.next(4) == 0 {
			end = api.Errno(1 + p.next(15))
			pack.Fail(end)
		}
	})
	if e != end {
		p.t.Fatalf("Try: %d, not %d", e, end)
	}
	if end != api.OK {
		p.want = was
	}
	if deep == 0 {
		maps.DeleteFunc(p.want.cells, func(_ int, c cell) bool { return c.refs == 0 && c.gone })
	}
	p.same()
}

// outside: a call of both that isn't made within a Try.
func (p *play) outside() {
	switch p.next(10) {
	case 0:
		if at := p.at(); at != 0 {
			p.more(at)
			p.adopt(at, api.OK)
		}
	case 1:
		p.h.Settle()
		maps.DeleteFunc(p.want.cells, func(_ int, c cell) bool { return c.refs == 0 })
		for at, c := range p.want.cells {
			c.young = false
			p.want.cells[at] = c
		}
	case 2:
		if p.power >= 0 && p.next(3) == 0 {
			p.power = p.next(12)
			p.d.Arm(p.power)
		}
	default:
		if p.power < 0 {
			p.whole()
			p.power = math.MaxInt
		}
	}
	p.same()
}

// same: store and heap are as the model is.
func (p *play) same() {
	p.t.Helper()
	held := p.want.held()
	p.counts("the model", len(p.want.extents), p.to-p.from-len(p.want.cells), len(p.want.cells)-len(held), held...)
	for _, at := range held {
		if n := p.h.Refs(at); n != p.want.cells[at].refs {
			p.t.Fatalf("Refs(%d): %d, not %d", at, n, p.want.cells[at].refs)
		}
	}
	// P11.3: by the store's own words.
	var l []int
	d := p.again(p.from, p.bits)
	if p.power < 0 {
		d.whole()
	}
	for at, x := range p.want.extents {
		l = append(append(l, at), x.parts...)
		d.adopt(at, api.OK)
		// P11.2: the bytes are there, where another store reads them, too.
		d.has(at, x.data, x.parts...)
	}
	slices.Sort(l)
	if !slices.Equal(l, held) || !slices.Equal(d.h.All(), held) {
		p.t.Fatalf("%v are held, and %v are heads and sectors of what is kept", held, l)
	}
	if p.t.Failed() {
		p.t.FailNow()
	}
}

// P11.1, P11.2, P11.3: each call, behind any calls, with heaps of each size and addresses of some bits and all.
func TestModel(t *testing.T) {
	seen := map[string]int{}
	for _, c := range []struct{ n, from, bits, calls int }{{2, 2, 256, 60}, {4, 1, 256, 200}, {9, 2, 256, 300}, {16, 3, 256, 400}, {40, 1, 256, 400}, {80, 7, 256, 400}, {40, 2, 1, 300}, {40, 2, 3, 300}, {60, 2, 8, 300}} {
		for seed := range uint64(12) {
			p := newPlay(t, seed, c.n, c.from, c.bits, c.calls)
			for p.left > 0 {
				p.left--
				if p.next(2) == 0 {
					p.try(0)
				} else {
					p.outside()
				}
			}
			for what, n := range p.seen {
				seen[what] += n
			}
		}
	}
	for _, what := range []string{"works", "no room", "clash", "no power"} {
		if seen[what] < 100 {
			t.Errorf("%s: tried %d times alone", what, seen[what])
		}
	}
}

// P11.3: many extents, put and let go in one Try, and in many.
func TestMany(t *testing.T) {
	b := newBox(t, api.MaxDevice, 2, 256)
	name := func(i int) string {
		return data("many", "", string([]byte{1, byte(i >> 8), byte(i)}), "")
	}
	n := (api.MaxDevice - 2) / 3
	b.works(func() {
		for i := range n {
			if at := b.x.Put(name(i)); at != 2+3*i+2 {
				t.Fatalf("Put: %d", at)
			}
		}
	})
	if b.x.Count() != n || b.h.Held() != 3*n {
		t.Errorf("%d are kept, %d held", b.x.Count(), b.h.Held())
	}
	b.works(func() {
		for i := 0; i < n; i += 2 {
			b.x.Less(b.x.Put(name(i)))
			b.x.Less(4 + 3*i)
		}
	})
	if b.x.Count() != n/2 || b.h.Held() != 3*(n/2) || b.h.Late() != 0 {
		t.Errorf("%d are kept, %d held", b.x.Count(), b.h.Held())
	}
	for i := 1; i < n; i += 2 {
		b.less(4 + 3*i)
	}
	b.counts("all are let go", 0, api.MaxDevice-2, 0)
}
