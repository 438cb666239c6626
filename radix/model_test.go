package radix_test

import (
	"crypto/sha256"
	"maps"
	"math"
	"slices"
	"testing"

	"stereobate/api"
	"stereobate/extent"
	"stereobate/pack"
	"stereobate/radix"
	"stereobate/sha"
)

// model is what is wanted, by the document's words: each Try begins with a copy of all.
type model struct {
	wants map[int]int            // of each map by how many it is wanted
	maps  map[int]map[int]string // the extents of each
	own   map[int]int            // of each extent by how many of those to whom layer 11 gave it
	bytes map[int]string         // of each of these
	keep  int
}

func (m model) clone() model {
	m.wants, m.maps, m.own, m.bytes = maps.Clone(m.wants), maps.Clone(m.maps), maps.Clone(m.own), maps.Clone(m.bytes)
	return m
}

// less: by how many something is wanted, one less.
func less(t map[int]int, at int) {
	t[at]--
	if t[at] == 0 {
		delete(t, at)
	}
}

// play is maps and their model.
type play struct {
	*box
	next  func(int) int
	want  model
	left  int      // calls that are made yet
	power int      // writes that work yet; below 0: there is none
	words []string // of which extents are made, so that the same ones come again
	nodes map[int]string
	seen  map[string]int
}

func newPlay(t *testing.T, seed uint64, n, from, calls int, seen map[string]int) *play {
	p := &play{box: newBox(t, n, from), next: noise(seed), left: calls, power: math.MaxInt, seen: seen}
	p.want = model{wants: map[int]int{}, maps: map[int]map[int]string{}, own: map[int]int{}, bytes: map[int]string{}}
	for range 6 {
		p.words = append(p.words, some(p.next, 1+p.next(120)))
	}
	p.words = append(p.words, data("", "second"), some(p.next, 256), noughts(256))
	return p
}

// one: some key of a table, or 0.
func (p *play) one(t map[int]int) int {
	l := slices.Sorted(maps.Keys(t))
	if len(l) == 0 || p.next(10) == 0 {
		return 0
	}
	return l[p.next(len(l))]
}

// at: some place of a map, often one of a few.
func (p *play) at() int {
	if l := []int{0, 1, 7, 8, 63, 64, 300, 511}; p.next(5) > 0 {
		return l[p.next(len(l))]
	}
	return p.next(512)
}

// calm: a heap that begins with sector 0, in which a Put may take one write and one sector more for a moment:
// there is always room, and power.
func (p *play) calm() bool {
	return p.all == p.d.Len()
}

// spend: the model's Put of so many sectors, one behind the other.
func (p *play) spend(n int) api.Errno {
	free := p.h.Free()
	for range n {
		if free <= p.want.keep {
			return api.ErrSpace
		}
		if p.power >= 0 {
			p.power--
		}
		if p.power < 0 {
			return api.ErrCut
		}
		free--
	}
	return api.OK
}

// dead: the error of what must be read without power.
func (p *play) dead(reads bool) api.Errno {
	if reads && p.power < 0 {
		return api.ErrCut
	}
	return api.OK
}

// kept: is there such an extent, whoever wants it?
func (p *play) kept(s string) bool {
	for _, has := range p.want.bytes {
		if has == s {
			return true
		}
	}
	for _, m := range p.want.maps {
		for _, has := range m {
			if has == s {
				return true
			}
		}
	}
	return false
}

// put: layer 11's Put, so that there are extents.
func (p *play) put() (func(), api.Errno) {
	s, e := p.words[p.next(len(p.words))], api.OK
	if s != noughts(256) && p.kept(s) {
		e = p.dead(true)
	} else {
		e = p.spend(extent.Cost(s))
	}
	return func() {
		if at := p.x.Put(s); at != 0 {
			p.want.own[at]++
			p.want.bytes[at] = s
		}
	}, e
}

// give: whoever has it wants an extent by one less.
func (p *play) give(x int) {
	if x != 0 {
		less(p.want.own, x)
	}
	if p.want.own[x] == 0 {
		delete(p.want.bytes, x)
	}
}

// drop: whoever has it wants a map by one less.
func (p *play) drop(root int) {
	if root != 0 {
		less(p.want.wants, root)
	}
	if p.want.wants[root] == 0 {
		delete(p.want.maps, root)
	}
}

// set: what the model says of a Set.
func (p *play) set() (func(), api.Errno) {
	root, at, x := p.one(p.want.wants), p.at(), p.one(p.want.own)
	has, same := maps.Clone(p.want.maps[root]), p.want.maps[root][at] == p.want.bytes[x]
	if has == nil {
		has = map[int]string{}
	}
	has[at] = p.want.bytes[x]
	if x == 0 {
		delete(has, at)
	}
	e := p.dead(root != 0 || x != 0)
	if e == api.OK && !same {
		e = p.spend(way(has, at))
	}
	return func() {
		now := p.m.Set(root, at, x)
		switch {
		case same && now != root, !same && root != 0 && now == root, (now == 0) != (len(has) == 0):
			p.t.Fatalf("Set(%d, %d, %d): %d", root, at, x, now)
		case !same && p.want.wants[now] != 0:
			p.t.Fatalf("Set(%d, %d, %d): %d, another map", root, at, x, now)
		}
		p.give(x)
		p.drop(root)
		if now != 0 {
			p.want.wants[now]++
			p.want.maps[now] = has
		}
		p.seen["Set"]++
	}, e
}

// way: how many nodes a map has on the way to an extent.
func way(has map[int]string, at int) int {
	n := 0
	for _, size := range []int{8, 64, 512} {
		for i := range has {
			if i/size == at/size {
				n++
				break
			}
		}
	}
	return n
}

// looks: the calls that change nothing.
func (p *play) looks() (func(), api.Errno) {
	root, at := p.one(p.want.wants), p.at()
	want := p.dead(root != 0)
	if p.next(2) == 0 {
		return func() {
			if s := p.m.Sum(root); s != digest(p.want.maps[root], radix.Top, 0) {
				p.t.Fatalf("Sum(%d): %s", root, s.Hex())
			}
		}, want
	}
	return func() {
		if s := p.x.Get(p.m.Get(root, at)); s != p.want.maps[root][at] && (s != noughts(256) || p.want.maps[root][at] != "") {
			p.t.Fatalf("Get(%d, %d): %q", root, at, s)
		}
	}, want
}

// call: some call within a Try, that does the same with the model where it doesn't fail, and how it must fail.
func (p *play) call() (run func(), want api.Errno) {
	switch p.next(12) {
	case 0, 1:
		return p.put()
	case 2, 3, 4, 5, 6:
		return p.set()
	case 7:
		root := p.one(p.want.wants)
		return func() {
			p.m.Share(root)
			if root != 0 {
				p.want.wants[root]++
			}
		}, api.OK
	case 8:
		root := p.one(p.want.wants)
		return func() { p.m.Drop(root); p.drop(root) }, p.dead(root != 0 && p.want.wants[root] == 1)
	case 9:
		x := p.one(p.want.own)
		return func() { p.x.Less(x); p.give(x) }, p.dead(x != 0)
	case 10:
		return p.looks()
	}
	n := p.next(6) - 2
	if p.calm() {
		n = 0
	}
	return func() { p.h.Keep(n); p.want.keep = max(n, 0) }, api.OK
}

// some: calls, and Tries, one behind the other; the error with which they must fail.
func (p *play) some(deep int, end *api.Errno) {
	for n := p.next(9); n > 0 && p.left > 0; n-- {
		p.left--
		if deep < 4 && p.next(5) == 0 {
			p.try(deep)
			continue
		}
		run, want := p.call()
		switch want {
		case api.ErrSpace:
			p.seen["no room"]++
		case api.ErrCut:
			p.seen["no power"]++
		}
		if p.next(2) == 0 {
			*end = want
			run()
			if want != api.OK {
				p.t.Fatalf("a call that must fail with %d", want)
			}
		} else if e := pack.Guard(run); e != want {
			p.t.Fatalf("a call: %d, not %d", e, want)
		}
		p.same()
	}
}

// try: a Try of both, with some calls and Tries within.
func (p *play) try(deep int) {
	was, end := p.want.clone(), api.OK
	e := p.h.Try(func() {
		p.some(deep+1, &end)
		if p.next(4) == 0 {
			end = api.Errno(1 + p.next(15))
			pack.Fail(end)
		}
	})
	if e != end {
		p.t.Fatalf("Try: %d, not %d", e, end)
	}
	if end != api.OK {
		p.want = was
	}
	p.same()
}

// outside: what isn't done within a Try.
func (p *play) outside() {
	switch p.next(10) {
	case 0:
		if root := p.one(p.want.wants); root != 0 {
			p.adopt(root, api.OK)
			p.want.wants[root]++
		}
	case 1:
		p.h.Settle()
	case 2:
		if p.power >= 0 && p.next(4) > 0 && !p.calm() {
			p.power = p.next(20)
			p.d.Arm(p.power)
		}
	case 3:
		if p.power >= 0 {
			p.power = math.MaxInt
			p.moved()
		}
	case 4, 5:
		if p.power < 0 {
			p.whole()
			p.power = math.MaxInt
		}
	}
	p.same()
}

// moved: other maps, over a copy of the disk, adopt all that is wanted, and go on.
func (p *play) moved() {
	p.whole() // it isn't armed
	p.box = over(p.t, p.d.Clone(), p.d.Len()-p.all, 256)
	for root, n := range p.want.wants {
		for range n {
			p.adopt(root, api.OK)
		}
	}
	for x, n := range p.want.own {
		for range n {
			if e := pack.Guard(func() { p.x.Adopt(x) }); e != api.OK {
				p.t.Fatalf("Adopt of an extent: %d", e)
			}
		}
	}
	p.want.keep = 0
}

// census is what the maps that are wanted reach, by the disk's own bytes.
type census struct {
	*play
	disk  *box
	refs  map[int]int
	nodes map[int]string
	heads map[int]string
}

// same: all is as the model is.
func (p *play) same() {
	p.t.Helper()
	c := census{p, &box{d: p.d.Clone()}, maps.Clone(p.want.own), map[int]string{}, map[int]string{}}
	c.disk.d.Crash(slices.Repeat([]int{64}, p.d.Len())...)
	for root, n := range p.want.wants {
		c.refs[root] += n
		if _, n := c.node(root, 2, 0, p.want.maps[root]); n != len(p.want.maps[root]) {
			p.t.Fatalf("the map %d has %d extents, not %d", root, n, len(p.want.maps[root]))
		}
	}
	for x, s := range p.want.bytes {
		c.extent(x, s)
	}
	// P13.4: what is held is what is wanted.
	if l := slices.Sorted(maps.Keys(c.refs)); !slices.Equal(l, p.h.All()) || p.x.Count() != len(c.heads) {
		p.t.Fatalf("%v are held, %v are wanted; %d extents are kept, not %d", p.h.All(), l, p.x.Count(), len(c.heads))
	}
	p.box.refs("the model", c.refs)
	if p.h.Free()+p.h.Late()+p.h.Held() != p.all {
		p.t.Fatalf("%d are free, %d late, %d held", p.h.Free(), p.h.Late(), p.h.Held())
	}
	// P13.2: no node is changed.
	for at, s := range c.nodes {
		if was, ok := p.nodes[at]; ok && was != s && p.h.Log.Deep() > 0 {
			p.t.Fatalf("the node in %d was changed", at)
		}
	}
	p.nodes = c.nodes
	if p.t.Failed() {
		p.t.FailNow()
	}
}

// node: one that is wanted, with all below it: its digest, and how many extents there are. Each must be that of
// the model.
func (c census) node(at, level, first int, has map[int]string) (sha.Sum, int) {
	s := c.disk.on(at)
	_, seen := c.nodes[at]
	c.nodes[at] = s
	if s[0] != 'N' || int(s[1]) != level {
		c.t.Fatalf("no node of level %d in %d: % x", level, at, s)
	}
	text, count := s[:2], 0
	for i := range 8 {
		kid, below := two(s, 2+2*i), first+i*[]int{1, 8, 64}[level]
		var sum sha.Sum
		n := 0
		if kid != 0 && !seen {
			c.refs[kid]++
		}
		switch {
		case kid == 0:
		case level == 0:
			c.extent(kid, has[below])
			sum, n = sha256.Sum256([]byte(has[below])), 1
		default:
			sum, n = c.node(kid, level-1, below, has)
		}
		text, count = text+sum.Text(), count+n
	}
	sum := sha.Sum(sha256.Sum256([]byte(text)))
	if count == 0 || s[18:50] != sum.Text() {
		c.t.Fatalf("the node in %d has %d extents below it, and % x", at, count, s)
	}
	return sum, count
}

// extent: one that is wanted, with its sectors.
func (c census) extent(at int, want string) {
	if c.heads[at] == want && want != "" {
		return
	}
	c.heads[at] = want
	s, text := c.disk.on(at), ""
	if s[0] != 'E' {
		c.t.Fatalf("no head in %d: % x", at, s)
	}
	for i := range 4 {
		part := two(s, 1+2*i)
		if part == 0 {
			text += noughts(64)
			continue
		}
		c.refs[part]++
		text += c.disk.on(part)
	}
	if text != want {
		c.t.Fatalf("the extent in %d: %q, not %q", at, text, want)
	}
}

// P13.1 to P13.4: each call, behind any calls, with much room and with little, with cuts of the power, and in
// maps that adopt what others put.
func TestModel(t *testing.T) {
	seen := map[string]int{}
	for _, c := range []struct{ n, from, calls int }{{12, 2, 150}, {20, 1, 250}, {40, 2, 400}, {60, 7, 400}, {120, 2, 500}, {300, 2, 500}, {1000, 0, 300}} {
		for seed := range uint64(12) {
			p := newPlay(t, seed, c.n, c.from, c.calls, seen)
			for p.left > 0 {
				p.left--
				if p.next(2) == 0 {
					p.try(0)
				} else {
					p.outside()
				}
			}
		}
	}
	for _, what := range []string{"Set", "no room", "no power"} {
		if seen[what] < 200 {
			t.Errorf("%s: %d times alone", what, seen[what])
		}
	}
}
