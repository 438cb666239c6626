package walk_test

import (
	"maps"
	"slices"
	"testing"

	"stereobate/walk"
)

// model is maps: what each has, and their roots.
type model struct {
	*box
	next  func(int) int
	roots []int
	has   []map[int]string
}

// noise: numbers below n, the same ones of the same seed.
func noise(seed uint64) func(n int) int {
	return func(n int) int {
		seed = seed*6364136223846793005 + 1442695040888963407
		return int((seed >> 33) % uint64(n))
	}
}

// change: a copy of some map, or some map itself, in which something is another one.
func (m *model) change() {
	i := m.next(len(m.roots))
	if m.next(3) == 0 && len(m.roots) < 6 {
		m.roots = append(m.roots, m.share(m.roots[i]))
		m.has = append(m.has, maps.Clone(m.has[i]))
		i = len(m.roots) - 1
	}
	at := m.next(512)
	if m.next(3) > 0 {
		at = places[m.next(len(places))]
	}
	switch m.next(8) {
	case 0:
		to := at + m.next(200) - 50
		m.roots[i] = m.clear(m.roots[i], at, to)
		maps.DeleteFunc(m.has[i], func(x int, _ string) bool { return at <= x && x < to })
	case 1:
		m.roots[i] = m.clear(m.roots[i], at, at+1)
		delete(m.has[i], at)
	case 2:
		if len(m.roots) > 1 {
			m.drop(m.roots[i])
			m.roots, m.has = slices.Delete(m.roots, i, i+1), slices.Delete(m.has, i, i+1)
		}
	default:
		name := string(rune('a' + m.next(5)))
		m.roots[i] = m.set(m.roots[i], name, at)
		m.has[i][at] = name
	}
}

// same: what is told of the maps is so.
func (m *model) same() {
	m.t.Helper()
	for i, root := range m.roots {
		var want []int
		for at := range 512 {
			if m.has[i][at] != "" {
				want = append(want, at)
			}
		}
		is(m.t, "All", m.ats(root), want)
		from, to := m.next(600)-50, m.next(600)-50
		in, _ := between(want, from, to)
		var l []int
		m.works(func() {
			for _, x := range walk.Leaves(m.m, root, from, to) {
				l = append(l, x.At)
			}
		})
		is(m.t, "Leaves", l, in)
		for k, other := range m.roots {
			want = nil
			for at := range 512 {
				if m.has[i][at] != m.has[k][at] {
					want = append(want, at)
				}
			}
			is(m.t, "Differ", m.differ(root, other), want)
		}
	}
	is(m.t, "Reach", m.reach(m.roots...), m.h.All())
	if m.t.Failed() {
		m.t.FailNow()
	}
}

// P14.1, P14.2, P14.3: each call, behind any changes of maps that have much in common.
func TestModel(t *testing.T) {
	for seed := range uint64(20) {
		m := &model{newBox(t, 2000), noise(seed), []int{0}, []map[int]string{{}}}
		for range 80 {
			m.change()
			m.same()
			if m.next(10) == 0 {
				m.h.Settle()
			}
		}
		for _, root := range m.roots {
			m.drop(root)
		}
		if m.h.Held() != 0 || m.x.Count() != 0 {
			t.Errorf("%v are held", m.h.All())
		}
	}
}
