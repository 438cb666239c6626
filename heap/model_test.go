package heap_test

import (
	"maps"
	"math"
	"slices"
	"testing"

	"stereobate/api"
	"stereobate/disk"
	"stereobate/heap"
	"stereobate/pack"
)

// noise answers numbers below n, the same ones each time.
func noise(seed uint64) func(n int) int {
	return func(n int) int {
		seed = seed*6364136223846793005 + 1442695040888963407
		return int((seed >> 33) % uint64(n))
	}
}

// some: so many bytes of noise.
func some(next func(int) int, n int) string {
	b := make([]byte, n)
	for i := range b {
		b[i] = byte(next(256))
	}
	return string(b)
}

// cell is what a sector is, if it isn't free.
type cell struct {
	refs  int // 0: it is late
	young bool
	gone  bool // it was young when it was let go
	s     string
}

// model is a heap by the document's words: each Try begins with a copy of all.
type model struct {
	cells map[int]cell
	keep  int
}

func (m model) clone() model {
	return model{maps.Clone(m.cells), m.keep}
}

// late: how many are.
func (m model) late() int {
	n := 0
	for _, c := range m.cells {
		if c.refs == 0 {
			n++
		}
	}
	return n
}

// forget: those cells are free.
func (m model) forget(is func(c cell) bool) {
	maps.DeleteFunc(m.cells, func(_ int, c cell) bool { return is(c) })
}

// play is a heap and its model.
type play struct {
	t        *testing.T
	next     func(int) int
	d        *disk.Disk
	h        *heap.Heap
	from, to int
	want     model
	left     int         // calls that are made yet
	power    int         // writes that work yet
	safe     map[int]int // those that were held at the last Settle
	bytes    []string    // what they had then
	written  int         // Puts that worked
}

func newPlay(t *testing.T, seed uint64, n, from, calls int) *play {
	d := disk.New(n)
	return &play{t: t, next: noise(seed), d: d, h: heap.New(d, from), from: from, to: n, want: model{cells: map[int]cell{}}, left: calls, power: math.MaxInt}
}

// at: some sector, of the heap mostly, held ones often.
func (p *play) at() int {
	if l := p.h.All(); len(l) > 0 && p.next(3) > 0 {
		return l[p.next(len(l))]
	}
	return p.from - 2 + p.next(p.to-p.from+4)
}

// put: what the model says of a Put: the sector, and the error.
func (p *play) put(s string) (int, api.Errno) {
	switch {
	case p.to-p.from-len(p.want.cells) <= p.want.keep:
		return 0, api.ErrSpace
	case p.power < 0:
		return 0, api.ErrCut
	case len(s) > 64:
		return 0, api.ErrBig
	}
	p.power--
	if p.power < 0 {
		return 0, api.ErrCut
	}
	at := p.from
	for _, taken := p.want.cells[at]; taken; _, taken = p.want.cells[at] {
		at++
	}
	p.want.cells[at] = cell{refs: 1, young: true, s: full(s)}
	p.written++
	return at, api.OK
}

// less: what the model says of a Less.
func (p *play) less(at int) (bool, api.Errno) {
	c, ok := p.want.cells[at]
	if !ok || c.refs == 0 {
		return false, api.ErrRange
	}
	c.refs--
	if c.refs == 0 {
		c.gone, c.young = c.young, false
	}
	p.want.cells[at] = c
	return c.refs == 0, api.OK
}

// more: what the model says of a More.
func (p *play) more(at int) api.Errno {
	c, ok := p.want.cells[at]
	if !ok || c.refs == 0 {
		return api.ErrRange
	}
	c.refs++
	p.want.cells[at] = c
	return api.OK
}

// get: what the model says of a Get.
func (p *play) get(at int) (string, api.Errno) {
	c, ok := p.want.cells[at]
	if !ok || c.refs == 0 {
		return "", api.ErrRange
	}
	if p.power < 0 {
		return "", api.ErrCut
	}
	return c.s, api.OK
}

// call: one of both, within a Try: the call, and the error that it must have.
func (p *play) call() (run func(), want api.Errno) {
	at := p.at()
	switch p.next(9) {
	case 0, 1, 2:
		s := some(p.next, p.next(66))
		wantAt, e := p.put(s)
		return func() {
			if got := p.h.Put(s); got != wantAt {
				p.t.Fatalf("Put: %d, not %d", got, wantAt)
			}
		}, e
	case 3, 4, 5:
		wantOK, e := p.less(at)
		return func() {
			if got := p.h.Less(at); got != wantOK {
				p.t.Fatalf("Less(%d): %v", at, got)
			}
		}, e
	case 6:
		return func() { p.h.More(at) }, p.more(at)
	case 7:
		s, e := p.get(at)
		return func() {
			if got := p.h.Get(at); got != s {
				p.t.Fatalf("Get(%d): %q, not %q", at, got, s)
			}
		}, e
	}
	n := p.next(6) - 2
	p.want.keep = max(n, 0)
	return func() { p.h.Keep(n) }, api.OK
}

// some: calls, and Tries, one behind the other; the error with which they must fail.
func (p *play) some(deep int, end *api.Errno) {
	for n := p.next(9); n > 0 && p.left > 0; n-- {
		p.left--
		if deep < 4 && p.next(4) == 0 {
			p.try(deep)
			continue
		}
		run, want := p.call()
		if p.next(2) == 0 {
			*end = want
			run()
			if want != api.OK {
				p.t.Fatalf("a call that must fail with %d", want)
			}
		} else if e := pack.Guard(run); e != want {
			p.t.Fatalf("a call: %d, not %d", e, want)
		}
		p.same()
	}
}

// try: a Try of both, with some calls and Tries within.
func (p *play) try(deep int) {
	was, end := p.want.clone(), api.OK
	e := p.h.Try(func() {
		p.some(deep+1, &end)
		if p.next(4) == 0 {
			end = api.Errno(1 + p.next(15))
			pack.Fail(end)
		}
	})
	if e != end {
		p.t.Fatalf("Try: %d, not %d", e, end)
	}
	if end != api.OK {
		p.want = was
	}
	if deep == 0 {
		p.want.forget(func(c cell) bool { return c.refs == 0 && c.gone })
	}
	p.same()
}

// outside: a call of both that isn't made within a Try.
func (p *play) outside() {
	switch p.next(12) {
	case 0, 1:
		at := p.at()
		c, ok := p.want.cells[at]
		wantOK, wantE := false, api.OK
		switch {
		case ok && c.refs > 0:
			p.more(at)
		case ok || at < p.from || at >= p.to:
			wantE = api.ErrRange
		default:
			wantOK = true
			p.want.cells[at] = cell{refs: 1, s: p.read()[at]}
		}
		adopt(p.t, p.h, at, wantOK, wantE)
	case 2:
		p.h.Settle()
		p.settled()
	case 3:
		if p.power >= 0 && p.next(4) == 0 {
			p.power = p.next(6)
			p.d.Arm(p.power)
		}
	default:
		if p.power < 0 && p.next(2) == 0 {
			p.d.Crash(slices.Repeat([]int{64}, p.to)...)
			p.power = math.MaxInt
		}
	}
	p.same()
}

// settled: the model's Settle; what is held then is to stay as it is till the next one.
func (p *play) settled() {
	p.want.forget(func(c cell) bool { return c.refs == 0 })
	p.safe = map[int]int{}
	for at, c := range p.want.cells {
		c.young = false
		p.want.cells[at] = c
		p.safe[at] = 1
	}
	p.bytes = p.read()
}

// read: all sectors, with power or without.
func (p *play) read() []string {
	d := p.d.Clone()
	if p.power < 0 {
		d.Crash(slices.Repeat([]int{64}, p.to)...)
	}
	return sectors(d)
}

// same: the heap is as the model is.
func (p *play) same() {
	p.t.Helper()
	h, late := p.h, p.want.late()
	var held []int
	for at, c := range p.want.cells {
		if c.refs > 0 {
			held = append(held, at)
		}
	}
	slices.Sort(held)
	if l := h.All(); !slices.Equal(l, held) || h.Held() != len(held) {
		p.t.Fatalf("All: %v, %d held, not %v", l, h.Held(), held)
	}
	if h.Late() != late {
		p.t.Fatalf("Late: %d, not %d", h.Late(), late)
	}
	// P10.3: together they are all.
	if n := h.Free() + h.Late() + h.Held(); n != p.to-p.from {
		p.t.Fatalf("%d sectors, not %d", n, p.to-p.from)
	}
	bytes := p.read()
	for at := p.from - 2; at < p.to+2; at++ {
		c := p.want.cells[at]
		if h.Refs(at) != c.refs {
			p.t.Fatalf("Refs(%d): %d, not %d", at, h.Refs(at), c.refs)
		}
		if c.refs > 0 && bytes[at] != c.s {
			p.t.Fatalf("sector %d: %q, not %q", at, bytes[at], c.s)
		}
		// P10.2: what was held at the last Settle has its bytes, whether somebody wants it still or not.
		if p.safe[at] == 1 && bytes[at] != p.bytes[at] {
			p.t.Fatalf("sector %d was written, which was held at the last Settle", at)
		}
	}
	for at := range p.from {
		if bytes[at] != full("") {
			p.t.Fatalf("sector %d isn't of the heap, and was written", at)
		}
	}
}

// P10.1, P10.2, P10.3: each call, behind any calls, on heaps of each size.
func TestModel(t *testing.T) {
	for _, c := range []struct{ n, from, calls int }{{0, 0, 60}, {5, 5, 60}, {1, 0, 200}, {3, 2, 200}, {4, 0, 500}, {8, 2, 800}, {12, 3, 1200}, {30, 0, 1200}, {40, 11, 1200}} {
		written := 0
		for seed := range uint64(30) {
			p := newPlay(t, seed, c.n, c.from, c.calls)
			for p.left > 0 {
				p.left--
				if p.next(2) == 0 {
					p.try(0)
				} else {
					p.outside()
				}
			}
			written += p.written
		}
		if c.n > c.from && written == 0 {
			t.Errorf("%d sectors: nothing was put", c.n-c.from)
		}
	}
}

// P10.2: what was held at the last Settle isn't written, however often all is let go, and put again.
func TestSafe(t *testing.T) {
	d := disk.New(24)
	h := heap.New(d, 4)
	next := noise(5)
	works(t, h, func() { puts(t, h, 4, 5, 6, 7, 8, 9) })
	for range 50 {
		h.Settle()
		safe, was := h.All(), sectors(d)
		for range 30 {
			h.Try(func() {
				for range next(6) {
					if l := h.All(); len(l) > 2 && next(2) == 0 {
						h.Less(l[next(len(l))])
					} else if at := h.Put(some(next, 64)); slices.Contains(safe, at) {
						t.Fatalf("Put: %d, which was held at the last Settle", at)
					}
				}
				if next(3) == 0 {
					pack.Fail(api.ErrNone)
				}
			})
			now := sectors(d)
			for _, at := range safe {
				if now[at] != was[at] {
					t.Fatalf("sector %d was written, which was held at the last Settle", at)
				}
			}
		}
	}
}

// P10.1: many that were put and let go in one Try.
func TestMany(t *testing.T) {
	h := heap.New(disk.New(api.MaxDevice), 6)
	n := api.MaxDevice - 6
	works(t, h, func() {
		for i := range n {
			if at := h.Put("x"); at != 6+i {
				t.Fatalf("Put: %d", at)
			}
		}
		fails(t, h, api.ErrSpace, func() {
			for at := 6; at < api.MaxDevice; at++ {
				h.Less(at)
			}
			h.Put("y")
		})
		if h.Held() != n {
			t.Errorf("undone: %d held", h.Held())
		}
	})
	works(t, h, func() {
		for at := 6; at < api.MaxDevice; at += 2 {
			less(t, h, at, true)
		}
	})
	if h.Free() != n/2 || h.Late() != 0 || h.Held() != n/2 {
		t.Errorf("%d free, %d late, %d held", h.Free(), h.Late(), h.Held())
	}
}
