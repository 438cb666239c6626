package disk_test

import (
	"slices"
	"strings"
	"testing"

	"stereobate/api"
	"stereobate/disk"
)

// noise answers numbers below n, the same ones each time.
func noise(seed uint64) func(n int) int {
	return func(n int) int {
		seed = seed*6364136223846793005 + 1442695040888963407
		return int((seed >> 33) % uint64(n))
	}
}

// model is a disk by the document's words, built otherwise: what is sure, and behind it what was written, write by write.
type model struct {
	n      int
	sure   map[int]string
	writes []note
	works  int // -1: it isn't armed
	cut    bool
}

type note struct {
	at int
	s  string
}

func newModel(n int) *model {
	m := &model{n: n, sure: map[int]string{}, works: -1}
	for at := range n {
		m.sure[at] = whole("")
	}
	return m
}

func (m *model) there(at int) string {
	s := m.sure[at]
	for _, x := range m.writes {
		if x.at == at {
			s = x.s
		}
	}
	return s
}

func (m *model) loose() []int {
	var l []int
	for at := range m.n {
		if m.there(at) != m.sure[at] {
			l = append(l, at)
		}
	}
	return l
}

func (m *model) inside(at int) bool {
	return 0 <= at && at < m.n
}

// use: one of the calls that work yet is gone; false: the power is cut instead.
func (m *model) use() bool {
	if m.works == 0 {
		m.cut = true
		return false
	}
	if m.works > 0 {
		m.works--
	}
	return true
}

func (m *model) read(at int) (string, api.Errno) {
	switch {
	case m.cut:
		return "", api.ErrCut
	case !m.inside(at):
		return "", api.ErrRange
	}
	return m.there(at), api.OK
}

func (m *model) write(at int, s string) api.Errno {
	switch {
	case m.cut:
		return api.ErrCut
	case !m.inside(at):
		return api.ErrRange
	case len(s) > 64:
		return api.ErrBig
	case !m.use():
		return api.ErrCut
	}
	m.writes = append(m.writes, note{at, whole(s)})
	return api.OK
}

func (m *model) sync() api.Errno {
	if m.cut || !m.use() {
		return api.ErrCut
	}
	for _, x := range m.writes {
		m.sure[x.at] = x.s
	}
	m.writes = nil
	return api.OK
}

func (m *model) crash(cuts []int) {
	for _, at := range m.loose() {
		cut := 0
		if len(cuts) > 0 {
			cut, cuts = min(max(cuts[0], 0), 64), cuts[1:]
		}
		m.sure[at] = m.there(at)[:cut] + m.sure[at][cut:]
	}
	m.writes, m.works, m.cut = nil, -1, false
}

func xored(s string, by int, with byte) string {
	b := []byte(s)
	b[by] ^= with
	return string(b)
}

func (m *model) spoil(at, by int, with byte) api.Errno {
	if !m.inside(at) {
		return api.ErrRange
	}
	if by < 0 || by > 63 {
		return api.ErrArg
	}
	m.sure[at] = xored(m.sure[at], by, with)
	for k, x := range m.writes {
		if x.at == at {
			m.writes[k].s = xored(x.s, by, with)
		}
	}
	return api.OK
}

func (m *model) clone() *model {
	c := *m
	c.sure = map[int]string{}
	for at, s := range m.sure {
		c.sure[at] = s
	}
	c.writes = slices.Clone(m.writes)
	return &c
}

// pair is a disk, and what it must be.
type pair struct {
	d *disk.Disk
	m *model
}

// same: all that can be asked without a change.
func (p pair) same(t *testing.T, step int) {
	t.Helper()
	if p.d.Len() != p.m.n || p.d.Dead() != p.m.cut || !slices.Equal(p.d.Loose(), p.m.loose()) {
		t.Fatalf("step %d: Len %d, Dead %v, Loose %v, not %d, %v, %v", step, p.d.Len(), p.d.Dead(), p.d.Loose(), p.m.n, p.m.cut, p.m.loose())
	}
	for at := -1; at <= p.m.n; at++ {
		s, e := read(p.d, at)
		if want, we := p.m.read(at); s != want || e != we {
			t.Fatalf("step %d: Read %d: %d, %q, not %d, %q", step, at, e, s, we, want)
		}
	}
}

// some: bytes of few kinds, so that sectors are often alike.
func some(next func(int) int) string {
	lens := []int{0, 1, 2, 3, 63, 64, 64, 65, 200}
	return strings.Repeat(string([]byte{byte(next(3))}), next(3)) + strings.Repeat(string([]byte{byte(next(3))}), lens[next(len(lens))])
}

func someCuts(next func(int) int) []int {
	var cuts []int
	for range next(8) {
		cuts = append(cuts, next(70)-3)
	}
	return cuts
}

// step makes one call of both, and holds their errors against each other.
func (p *pair) step(t *testing.T, k int, next func(int) int) {
	t.Helper()
	at := next(p.m.n+2) - 1
	var e, want api.Errno
	what := ""
	switch next(16) {
	case 0, 1:
		what, e, want = "Sync", sync(p.d), p.m.sync()
	case 2:
		n := next(9) - 1
		what = "Arm"
		p.d.Arm(n)
		p.m.works = max(n, 0)
	case 3:
		by, with := next(66)-1, byte(next(4))
		what, e, want = "Spoil", spoil(p.d, at, by, with), p.m.spoil(at, by, with)
	case 4:
		what = "Crash"
		cuts := someCuts(next)
		p.d.Crash(cuts...)
		p.m.crash(cuts)
	default:
		s := some(next)
		what, e, want = "Write", write(p.d, at, s), p.m.write(at, s)
	}
	if e != want {
		t.Fatalf("step %d: %s at %d: %d, not %d", k, what, at, e, want)
	}
}

// P4.1: any calls one behind the other, of disks of several sizes, with Clones that go their own ways.
func TestAnyCalls(t *testing.T) {
	for seed := range 60 {
		next := noise(uint64(seed))
		n := next(9)
		all := []pair{{disk.New(n), newModel(n)}}
		for k := range 600 {
			p := &all[next(len(all))]
			p.step(t, k, next)
			if next(40) == 0 && len(all) < 5 {
				all = append(all, pair{p.d.Clone(), p.m.clone()})
			}
			for _, q := range all {
				q.same(t, k)
			}
		}
	}
}

// P4.2: what was there at a Sync that worked, and wasn't written since, is there behind any Crash.
func TestKept(t *testing.T) {
	const n = 8
	for seed := range 300 {
		next := noise(uint64(1000 + seed))
		d := disk.New(n)
		var kept, there [n]string
		var since [n]bool
		for at := range n {
			kept[at], there[at] = whole(""), whole("")
		}
		for range 40 {
			if next(3) == 0 {
				d.Arm(next(20))
			}
			for range next(20) {
				at, s := next(n), strings.Repeat(string([]byte{byte(next(256))}), next(65))
				if next(5) == 0 {
					if sync(d) == api.OK {
						kept, since = there, [n]bool{}
					}
				} else if write(d, at, s) == api.OK {
					there[at], since[at] = whole(s), true
				}
			}
			d.Crash(someCuts(next)...)
			for at := range n {
				s, e := read(d, at)
				if e != api.OK || !since[at] && s != kept[at] {
					t.Fatalf("Read %d: %d, %q, not %q", at, e, s, kept[at])
				}
				kept[at], there[at] = s, s
			}
			since = [n]bool{}
		}
	}
}
