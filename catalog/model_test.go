package catalog_test

import (
	"maps"
	"math"
	"slices"
	"testing"

	"stereobate/api"
	"stereobate/catalog"
	"stereobate/pack"
)

// cell is what a sector is, if it isn't free.
type cell struct {
	refs  int  // 0: it is late
	young bool // it stays so when it is let go
	entry catalog.Entry
	next  int
}

// model is a heap with catalogs by the document's words: each Try begins with a copy of all.
type model struct {
	cells map[int]cell
	heads []int // of catalogs that were saved and not dropped
	keep  int
}

func (m model) clone() model {
	return model{maps.Clone(m.cells), slices.Clone(m.heads), m.keep}
}

// play is a heap with catalogs, and its model.
type play struct {
	*box
	next     func(int) int
	from, to int
	want     model
	left     int // calls that are made yet
	power    int // writes that work yet
	seen     map[api.Errno]int
}

func newPlay(t *testing.T, seed uint64, n, from, calls int, seen map[api.Errno]int) *play {
	return &play{
		box: newBox(t, n, from), next: noise(seed), from: from, to: n,
		want: model{cells: map[int]cell{}}, left: calls, power: math.MaxInt, seen: seen,
	}
}

// held: which sectors are wanted, rising.
func (p *play) held() []int {
	var l []int
	for at := p.from; at < p.to; at++ {
		if p.want.cells[at].refs > 0 {
			l = append(l, at)
		}
	}
	return l
}

// put: the model's Put of one entry.
func (p *play) put(x catalog.Entry, next int) (int, api.Errno) {
	if p.to-p.from-len(p.want.cells) <= p.want.keep {
		return 0, api.ErrSpace
	}
	if p.power--; p.power < 0 {
		p.power = -1
		return 0, api.ErrCut
	}
	at := p.from
	for _, taken := p.want.cells[at]; taken; _, taken = p.want.cells[at] {
		at++
	}
	p.want.cells[at] = cell{1, true, x, next}
	return at, api.OK
}

// save: what the model says of a Save; with an error nothing has changed but the power.
func (p *play) save(l []catalog.Entry) (int, api.Errno) {
	was, head := p.want.clone(), 0
	for _, x := range slices.Backward(l) {
		at, e := p.put(x, head)
		if e != api.OK {
			p.want = was
			return 0, e
		}
		head = at
	}
	if head != 0 {
		p.want.heads = append(p.want.heads, head)
	}
	return head, api.OK
}

// drop: what the model says of a Drop of a catalog that stands in its list.
func (p *play) drop(which int) api.Errno {
	if p.power < 0 {
		return api.ErrCut
	}
	for at := p.want.heads[which]; at != 0; {
		c := p.want.cells[at]
		c.refs--
		p.want.cells[at] = c
		at = c.next
	}
	p.want.heads = slices.Delete(p.want.heads, which, which+1)
	return api.OK
}

// share: each entry of a catalog is wanted by one more, so that it may be dropped twice.
func (p *play) share(which int) func() {
	head := p.want.heads[which]
	var l []int
	for at := head; at != 0; at = p.want.cells[at].next {
		c := p.want.cells[at]
		c.refs++
		p.want.cells[at] = c
		l = append(l, at)
	}
	p.want.heads = append(p.want.heads, head)
	return func() {
		for _, at := range l {
			p.h.More(at)
		}
	}
}

// call: one of both, within a Try: the call, and the error that it must have.
func (p *play) call() (run func(), want api.Errno) {
	kind := p.next(9)
	if len(p.want.heads) == 0 && kind > 3 {
		kind = 0
	}
	switch kind {
	case 0, 1, 2:
		l := rising(p.next, p.next(7))
		wantHead, e := p.save(l)
		return func() {
			if head := catalog.Save(p.h, l); head != wantHead {
				p.t.Fatalf("Save: %d, not %d", head, wantHead)
			}
		}, e
	case 3:
		n := p.next(6) - 2
		p.want.keep = max(n, 0)
		return func() { p.h.Keep(n) }, api.OK
	case 4:
		return p.share(p.next(len(p.want.heads))), api.OK
	}
	which := p.next(len(p.want.heads))
	head := p.want.heads[which]
	return func() { catalog.Drop(p.h, head) }, p.drop(which)
}

// some: calls, and Tries, one behind the other; the error with which they must fail.
func (p *play) some(deep int, end *api.Errno) {
	for n := p.next(9); n > 0 && p.left > 0; n-- {
		p.left--
		if deep < 4 && p.next(4) == 0 {
			p.try(deep)
			continue
		}
		run, want := p.call()
		p.seen[want]++
		if p.next(2) == 0 {
			*end = want
			run()
			if want != api.OK {
				p.t.Fatalf("a call that must fail with %d", want)
			}
		} else if e := pack.Guard(run); e != want {
			p.t.Fatalf("a call: %d, not %d", e, want)
		}
		p.same()
	}
}

// try: a Try of both, with some calls and Tries within.
func (p *play) try(deep int) {
	was, end := p.want.clone(), api.OK
	e := p.h.Try(func() {
		p.some(deep+1, &end)
		if p.next(4) == 0 {
			end = api.Errno(1 + p.next(15))
			pack.Fail(end)
		}
	})
	if e != end {
		p.t.Fatalf("Try: %d, not %d", e, end)
	}
	if end != api.OK {
		p.want = was
	}
	if deep == 0 {
		maps.DeleteFunc(p.want.cells, func(_ int, c cell) bool { return c.refs == 0 && c.young })
	}
	p.same()
}

// outside: what isn't done within a Try.
func (p *play) outside() {
	switch p.next(8) {
	case 0, 1:
		p.h.Settle()
		maps.DeleteFunc(p.want.cells, func(_ int, c cell) bool { return c.refs == 0 })
		for at, c := range p.want.cells {
			c.young = false
			p.want.cells[at] = c
		}
	case 2:
		if p.power >= 0 && p.next(3) == 0 {
			p.power = p.next(12)
			p.d.Arm(p.power)
		}
	default:
		if p.power < 0 {
			p.whole()
			p.power = math.MaxInt
		}
	}
	p.same()
}

// same: the heap is as the model is, and another heap adopts each catalog as it was saved.
func (p *play) same() {
	p.t.Helper()
	held := p.held()
	p.counts("the model", p.to-p.from-len(p.want.cells), len(p.want.cells)-len(held), held...)
	for _, at := range held {
		if n := p.h.Refs(at); n != p.want.cells[at].refs {
			p.t.Fatalf("Refs(%d): %d, not %d", at, n, p.want.cells[at].refs)
		}
	}
	d := p.again(p.from)
	if p.power < 0 {
		d.whole()
	}
	for _, head := range slices.Compact(slices.Sorted(slices.Values(p.want.heads))) {
		var l []catalog.Entry
		for at := head; at != 0; at = p.want.cells[at].next {
			l = append(l, p.want.cells[at].entry)
		}
		if got := d.adopt(head, api.OK); !slices.Equal(got, l) {
			p.t.Fatalf("Adopt(%d): %+v, not %+v", head, got, l)
		}
	}
	if !slices.Equal(d.h.All(), held) {
		p.t.Fatalf("%v are the catalogs', %v are held", d.h.All(), held)
	}
	if p.t.Failed() {
		p.t.FailNow()
	}
}

// P15.1, P15.2: each call, behind any calls, with heaps of each size, without power, without room.
func TestModel(t *testing.T) {
	seen := map[api.Errno]int{}
	for _, c := range []struct{ n, from, calls int }{{2, 2, 60}, {4, 1, 200}, {9, 2, 300}, {16, 3, 400}, {40, 1, 400}, {80, 7, 400}} {
		for seed := range uint64(12) {
			p := newPlay(t, seed, c.n, c.from, c.calls, seen)
			for p.left > 0 {
				p.left--
				if p.next(2) == 0 {
					p.try(0)
				} else {
					p.outside()
				}
			}
		}
	}
	for _, e := range []api.Errno{api.OK, api.ErrSpace, api.ErrCut} {
		if seen[e] < 100 {
			t.Errorf("error %d: tried %d times alone", e, seen[e])
		}
	}
}
