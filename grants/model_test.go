package grants_test

import (
	"slices"
	"testing"

	"stereobate/grants"
)

// noise answers numbers below n, the same ones each time.
func noise(seed uint64) func(n int) int {
	return func(n int) int {
		seed = seed*6364136223846793005 + 1442695040888963407
		return int((seed >> 33) % uint64(n))
	}
}

// model is a map by the document's words, built otherwise: three heaps of numbers, each rising.
type model struct {
	free, held, late []int
}

func newModel(from, to int) *model {
	m := &model{}
	for at := from; at < to; at++ {
		m.free = append(m.free, at)
	}
	return m
}

// shift: at goes from one heap to the other one; false: it isn't in the first.
func shift(at int, a, b *[]int) bool {
	i, ok := slices.BinarySearch(*a, at)
	if !ok {
		return false
	}
	*a = slices.Delete(*a, i, i+1)
	j, _ := slices.BinarySearch(*b, at)
	*b = slices.Insert(*b, j, at)
	return true
}

func (m *model) take() (int, bool) {
	if len(m.free) == 0 {
		return 0, false
	}
	at := m.free[0]
	return at, shift(at, &m.free, &m.held)
}

func (m *model) settle() {
	for len(m.late) > 0 {
		shift(m.late[0], &m.late, &m.free)
	}
}

// same: the map is as the model is.
func same(t *testing.T, step int, m *grants.Map, w *model, from, to int) {
	t.Helper()
	if m.Free() != len(w.free) || m.Late() != len(w.late) || m.Held() != len(w.held) {
		t.Fatalf("step %d: %d free, %d late, %d held, not %d, %d, %d", step, m.Free(), m.Late(), m.Held(), len(w.free), len(w.late), len(w.held))
	}
	// P6.2: together they are all.
	if all := m.Free() + m.Late() + m.Held(); all != max(to-from, 0) {
		t.Fatalf("step %d: %d sectors, not %d", step, all, max(to-from, 0))
	}
	if l := m.All(); !slices.Equal(l, w.held) {
		t.Fatalf("step %d: All: %v, not %v", step, l, w.held)
	}
	for at := from - 2; at < to+2; at++ {
		if _, ok := slices.BinarySearch(w.held, at); m.Is(at) != ok {
			t.Fatalf("step %d: Is(%d): %v", step, at, !ok)
		}
	}
}

// step: one call of both; what they answered.
func step(next func(int) int, m *grants.Map, w *model, from, to int) (what string, got, want int) {
	at := from - 2 + next(max(to-from, 0)+4)
	say := func(ok bool) int {
		if ok {
			return 1
		}
		return 0
	}
	switch next(12) {
	case 0, 1, 2:
		a, ok := m.Take()
		b, wok := w.take()
		return "Take", 2*a + say(ok), 2*b + say(wok)
	case 3, 4:
		return "Hold", say(m.Hold(at)), say(shift(at, &w.free, &w.held))
	case 5, 6:
		return "Give", say(m.Give(at)), say(shift(at, &w.held, &w.free))
	case 7, 8:
		return "Later", say(m.Later(at)), say(shift(at, &w.held, &w.late))
	case 9, 10:
		return "Back", say(m.Back(at)), say(shift(at, &w.late, &w.held))
	}
	m.Settle()
	w.settle()
	return "Settle", 0, 0
}

// P6.1, P6.2: each call, behind any calls, on maps of each size.
func TestModel(t *testing.T) {
	for _, c := range []struct{ from, to, steps int }{
		{0, 0, 200}, {3, 1, 200}, {0, 1, 500}, {4095, 4096, 500}, {2, 5, 3000}, {0, 8, 3000}, {6, 40, 5000}, {514, 700, 3000}, {0, 4096, 300},
	} {
		for seed := range uint64(4) {
			next := noise(seed)
			m, w := grants.New(c.from, c.to), newModel(c.from, c.to)
			for i := range c.steps {
				if what, got, want := step(next, m, w, c.from, c.to); got != want {
					t.Fatalf("New(%d, %d), step %d: %s: %d, not %d", c.from, c.to, i, what, got, want)
				}
				same(t, i, m, w, c.from, c.to)
			}
		}
	}
}

// P6.2: no sector is taken that isn't free: neither one that is held, nor one that is late.
func TestTakenOnce(t *testing.T) {
	next := noise(9)
	m := grants.New(5, 30)
	mine := map[int]bool{}
	for range 5000 {
		switch next(5) {
		case 0, 1:
			free := m.Free()
			at, ok := m.Take()
			if ok != (free > 0) {
				t.Fatalf("Take: %v, with %d free", ok, free)
			}
			if ok && mine[at] {
				t.Fatalf("Take: %d, which wasn't free", at)
			}
			if ok {
				mine[at] = true
			}
		case 2:
			if at := 5 + next(25); m.Give(at) {
				delete(mine, at)
			}
		case 3:
			m.Later(5 + next(25)) // it is nobody's, but it isn't free either
		case 4:
			if next(4) == 0 {
				for at := range mine {
					if !m.Is(at) {
						delete(mine, at)
					}
				}
				m.Settle()
			}
		}
	}
}
