package store_test

import (
	"testing"

	"stereobate/api"
	"stereobate/pack"
)

// play is a store of which any calls are made, and what it was at its last checkpoint.
type play struct {
	*box
	next  func(int) int
	texts []string // of extents
	last  view
	has   held
	seen  map[string]int
}

func newPlay(t *testing.T, seed uint64, heap, journal, bits int, seen map[string]int) *play {
	t.Helper()
	p := &play{box: newBox(t, heap, journal, bits), next: noise(seed), seen: seen}
	p.texts = []string{noughts(256), sector("short") + noughts(192), noughts(192) + sector("behind")}
	for range 4 {
		p.texts = append(p.texts, some(p.next, 256))
	}
	p.checkpoint()
	return p
}

// checkpoint: it is as the last Commit left it.
func (p *play) checkpoint() {
	p.t.Helper()
	p.last, p.has = p.view(), p.held()
}

// id: a volume's number, seldom of none.
func (p *play) id() (uint32, int) {
	l := p.s.Entries()
	if len(l) == 0 || p.next(20) == 0 {
		return uint32(p.next(int(p.s.Next()) + 2)), 1
	}
	x := l[p.next(len(l))]
	return x.ID, x.Size
}

// data: so many sectors, often of extents that there are already.
func (p *play) data(n int) string {
	s := ""
	for len(s) < n*64 {
		s += p.texts[p.next(len(p.texts))]
	}
	return s[:n*64]
}

// one: some call; its error.
func (p *play) one() api.Errno {
	id, size := p.id()
	at := p.next(size)
	n := min(p.next(size-at)+1, 1+p.next(30))
	e := api.OK
	switch p.next(12) {
	case 0:
		_, e = p.s.Create(1 + p.next(90))
	case 1:
		_, e = p.s.Snapshot(id)
	case 2:
		_, e = p.s.Clone(id)
	case 3:
		e = p.s.Delete(id)
	case 4:
		e = p.s.Resize(id, 1+p.next(90))
	case 5, 6:
		e = p.s.Trim(id, at, n)
	case 7:
		e = p.s.Write(id, at, some(p.next, n*64))
	default:
		e = p.s.Write(id, at, p.data(n))
	}
	p.seen[[]string{"done", "", "", "", "arg", "none", "range", "only", "space", "clash", "", "", "cut", "full"}[e]]++
	return e
}

// calls: so many, each of which may be within a Try that is undone, as long as there is power.
func (p *play) calls(n int) {
	for i := 0; i < n && !p.d.Dead(); i++ {
		if p.next(8) > 0 {
			p.one()
			continue
		}
		p.s.Heap.Try(func() {
			p.one()
			p.one()
			if p.next(2) == 0 {
				pack.Fail(api.ErrBase)
			}
		})
	}
}

// cuts: how loose sectors are torn.
func (p *play) cuts() []int {
	var l []int
	kind := p.next(4)
	for range p.d.Len() {
		switch kind {
		case 0:
			l = append(l, 0)
		case 1:
			l = append(l, 64)
		default:
			l = append(l, []int{0, 64, p.next(65)}[p.next(3)])
		}
	}
	return l
}

// torn: behind some crash it is as it was at the last Commit, or as it was when one had begun that was cut.
func (p *play) torn(begun *view) *box {
	p.t.Helper()
	a := p.again(p.cuts()...)
	a.settled()
	v := a.view()
	if v.differs(p.last) == "" && (begun == nil || a.s.Super.Epoch == p.s.Super.Epoch) {
		a.holds("as at the last Commit", p.has)
		p.seen["as it was"]++
		return a
	}
	if begun == nil {
		p.t.Fatalf("another one than at the last Commit: %s: %+v, not %+v", v.differs(p.last), v.entries, p.last.entries)
	}
	a.is("as the Commit began", *begun)
	p.seen["as it is"]++
	return a
}

// crash: what is there behind any crash; it goes on with one of them.
func (p *play) crash(begun *view) {
	p.t.Helper()
	var a *box
	for range 1 + p.next(4) {
		a = p.torn(begun)
	}
	p.box = a
	p.checkpoint()
}

// round: calls, and then a Commit, or a crash, or both, with a cut of the power somewhere.
func (p *play) round() {
	p.t.Helper()
	if p.next(2) == 0 {
		p.d.Arm(p.next(60))
	}
	p.calls(p.next(12))
	if p.d.Dead() || p.next(4) == 0 {
		p.crash(nil)
		return
	}
	now := p.view()
	if p.next(2) == 0 {
		p.d.Arm(p.next(len(now.entries) + 4))
	}
	if e := pack.Guard(p.s.Commit); e == api.ErrCut && p.d.Dead() {
		p.seen["cut within Commit"]++
		p.crash(&now)
	} else if e != api.OK {
		p.t.Fatalf("Commit: %d", e)
	} else {
		p.is("Commit", now)
		p.settled()
		p.checkpoint()
	}
}

// P18.2 to P18.4: any calls, with much room and with little, cuts of the power anywhere, anything torn.
func TestModel(t *testing.T) {
	seen := map[string]int{}
	for _, c := range []struct{ heap, journal, bits, rounds int }{
		{32, 4, 256, 60}, {40, 7, 256, 60}, {60, 4, 256, 60}, {100, 20, 5, 60}, {200, 4, 256, 60}, {500, 4, 10, 40}, {1000, 100, 256, 30},
	} {
		for seed := range uint64(12) {
			p := newPlay(t, seed, c.heap, c.journal, c.bits, seen)
			for range c.rounds {
				p.round()
			}
		}
	}
	for what, n := range map[string]int{
		"done": 5000, "none": 100, "only": 100, "space": 500, "clash": 50, "cut": 100, "full": 30,
		"cut within Commit": 300, "as it was": 1000, "as it is": 100,
	} {
		if seen[what] < n {
			t.Errorf("%s: %d times alone", what, seen[what])
		}
	}
}
