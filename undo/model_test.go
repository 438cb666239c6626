package undo_test

import (
	"maps"
	"slices"
	"testing"

	"stereobate/api"
	"stereobate/pack"
	"stereobate/undo"
)

// noise answers numbers below n, the same ones each time.
func noise(seed uint64) func(n int) int {
	return func(n int) int {
		seed = seed*6364136223846793005 + 1442695040888963407
		return int((seed >> 33) % uint64(n))
	}
}

// things are what is set, and the steps that went back.
type things struct {
	vars  [3]int
	texts map[string]int
	nums  map[int]string
	open  []int // steps that would go back, should all fail
}

func (x *things) clone() things {
	return things{x.vars, maps.Clone(x.texts), maps.Clone(x.nums), slices.Clone(x.open)}
}

// play is things that a log has, and a model by the document's words: each Try begins with a copy of all.
type play struct {
	t    *testing.T
	next func(int) int
	g    undo.Log
	is   things
	want things
	back []int // the steps that went back, in their order
	must []int // those that must have
	step int
	left int // calls that are made yet
}

func newPlay(t *testing.T, seed uint64, calls int) *play {
	p := &play{t: t, next: noise(seed), left: calls}
	p.is = things{texts: map[string]int{"a": 1, "b": 0}, nums: map[int]string{0: "", 1: "x"}}
	p.want = p.is.clone()
	return p
}

// call: one of both.
func (p *play) call(deep int) {
	key, to := p.next(4), p.next(3)
	text := string(rune('a' + key))
	switch p.next(6) {
	case 0:
		undo.Set(&p.g, &p.is.vars[key%3], to)
		p.want.vars[key%3] = to
	case 1:
		undo.Put(&p.g, p.is.texts, text, to)
		p.want.texts[text] = to
	case 2:
		undo.Drop(&p.g, p.is.texts, text)
		delete(p.want.texts, text)
	case 3:
		undo.Put(&p.g, p.is.nums, key, text)
		p.want.nums[key] = text
	case 4:
		undo.Drop(&p.g, p.is.nums, key)
		delete(p.want.nums, key)
	case 5:
		p.step++
		n := p.step
		p.g.Back(func() { p.back = append(p.back, n) })
		if deep > 0 {
			p.want.open = append(p.want.open, n)
		}
	}
}

// try: a Try of both, with some calls and Tries within.
func (p *play) try(deep int) {
	was := p.want.clone()
	end := api.Errno(p.next(3) * p.next(8))
	e := p.g.Try(func() {
		p.some(deep + 1)
		if end != api.OK {
			pack.Fail(end)
		}
	})
	if e != end {
		p.t.Fatalf("Try: %d, not %d", e, end)
	}
	if end != api.OK {
		for n := len(p.want.open); n > len(was.open); n-- {
			p.must = append(p.must, p.want.open[n-1])
		}
		p.want = was
	}
	if deep == 0 {
		p.want.open = nil
	}
	p.same(deep)
}

// some: calls, and Tries, one behind the other.
func (p *play) some(deep int) {
	for n := p.next(8); n > 0 && p.left > 0; n-- {
		p.left--
		if deep < 6 && p.next(3) == 0 {
			p.try(deep)
		} else {
			p.call(deep)
		}
		p.same(deep)
	}
}

// same: things are as the model has them.
func (p *play) same(deep int) {
	p.t.Helper()
	if p.g.Deep() != deep {
		p.t.Fatalf("Deep: %d, not %d", p.g.Deep(), deep)
	}
	if p.is.vars != p.want.vars || !maps.Equal(p.is.texts, p.want.texts) || !maps.Equal(p.is.nums, p.want.nums) {
		p.t.Fatalf("%v, not %v", p.is, p.want)
	}
	if !slices.Equal(p.back, p.must) {
		p.t.Fatalf("steps back: %v, not %v", p.back, p.must)
	}
}

// P9.1: each call, behind any calls, Tries within Tries.
func TestModel(t *testing.T) {
	for seed := range uint64(200) {
		p := newPlay(t, seed, 400)
		for p.left > 0 {
			p.some(0)
		}
	}
}

// P9.1: as many Tries within Tries, and steps within them, as may come.
func TestMany(t *testing.T) {
	var g undo.Log
	const n = 2000
	m := map[int]int{}
	var down func(i int)
	down = func(i int) {
		undo.Put(&g, m, i, i)
		undo.Put(&g, m, -1, i)
		if i < n {
			fails(t, &g, api.OK, func() { down(i + 1) })
		}
	}
	fails(t, &g, api.ErrSpace, func() {
		down(0)
		if len(m) != n+2 || m[-1] != n {
			t.Errorf("%d keys, %d", len(m), m[-1])
		}
		pack.Fail(api.ErrSpace)
	})
	if len(m) != 0 {
		t.Errorf("undone: %d keys are there", len(m))
	}
}
