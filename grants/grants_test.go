package grants_test

import (
	"math"
	"slices"
	"testing"

	"stereobate/api"
	"stereobate/grants"
)

// counts: how many are free, late and held, and which are held.
func counts(t *testing.T, what string, m *grants.Map, free, late int, held ...int) {
	t.Helper()
	if m.Free() != free || m.Late() != late || m.Held() != len(held) {
		t.Errorf("%s: %d free, %d late, %d held, not %d, %d, %d", what, m.Free(), m.Late(), m.Held(), free, late, len(held))
	}
	if l := m.All(); !slices.Equal(l, held) {
		t.Errorf("%s: All: %v, not %v", what, l, held)
	}
	for _, at := range held {
		if !m.Is(at) {
			t.Errorf("%s: Is(%d): false", what, at)
		}
	}
}

// takes: that one is the next.
func takes(t *testing.T, m *grants.Map, want int) {
	t.Helper()
	if at, ok := m.Take(); !ok || at != want {
		t.Errorf("Take: %d, %v, not %d", at, ok, want)
	}
}

// empty: there is none to take.
func empty(t *testing.T, m *grants.Map) {
	t.Helper()
	if at, ok := m.Take(); ok || at != 0 {
		t.Errorf("Take: %d, %v, where none is free", at, ok)
	}
}

// did: a call that must be so.
func did(t *testing.T, what string, got, want bool) {
	t.Helper()
	if got != want {
		t.Errorf("%s: %v", what, got)
	}
}

// P6.1: the document's example.
func TestExample(t *testing.T) {
	m := grants.New(2, 5)
	takes(t, m, 2)
	did(t, "Later", m.Later(2), true)
	takes(t, m, 3)
	m.Settle()
	takes(t, m, 2)
	counts(t, "behind it", m, 1, 0, 2, 3)
}

// P6.1: maps of each kind: all are free, and all can be taken, rising.
func TestNew(t *testing.T) {
	for _, c := range []struct{ from, to, n int }{
		{0, 0, 0}, {0, 1, 1}, {0, 5, 5}, {1, 2, 1}, {2, 5, 3}, {5, 5, 0}, {5, 4, 0}, {5, 3, 0}, {5, 0, 0}, {1, 0, 0},
		{0, api.MaxDevice, 4096}, {4095, 4096, 1}, {4096, 4096, 0}, {4096, 0, 0}, {4096, 4095, 0}, {514, 4096, 3582},
	} {
		m := grants.New(c.from, c.to)
		counts(t, "New", m, c.n, 0)
		var all []int
		for i := range c.n {
			takes(t, m, c.from+i)
			all = append(all, c.from+i)
		}
		empty(t, m)
		counts(t, "all taken", m, 0, 0, all...)
	}
}

// outside: sectors that aren't of the map, near and far.
func outside(from, to int) []int {
	return []int{from - 1, to, to + 1, from - 2, math.MinInt, math.MinInt + 1, math.MaxInt, math.MaxInt - 1, -1, -from - 1, to + 4096, to + 1<<32, from + 1<<32, from - 1<<32}
}

// P6.1: sectors outside of the map are nothing, whatever is asked of them.
func TestOutside(t *testing.T) {
	for _, c := range []struct{ from, to int }{{0, 3}, {1, 4}, {10, 14}, {4090, 4096}} {
		m := grants.New(c.from, c.to)
		takes(t, m, c.from)
		takes(t, m, c.from+1)
		m.Later(c.from)
		for _, at := range outside(c.from, c.to) {
			did(t, "Is", m.Is(at), false)
			did(t, "Hold", m.Hold(at), false)
			did(t, "Give", m.Give(at), false)
			did(t, "Later", m.Later(at), false)
			did(t, "Back", m.Back(at), false)
		}
		counts(t, "outside", m, c.to-c.from-2, 1, c.from+1)
	}
}

// P6.1: a map with no sector.
func TestNone(t *testing.T) {
	for _, m := range []*grants.Map{grants.New(0, 0), grants.New(3, 3), grants.New(5, 3), grants.New(4096, 0)} {
		for _, at := range []int{0, 1, 3, 4, 5, 4095, 4096, -1, math.MinInt, math.MaxInt} {
			did(t, "Is", m.Is(at), false)
			did(t, "Hold", m.Hold(at), false)
			did(t, "Give", m.Give(at), false)
			did(t, "Later", m.Later(at), false)
			did(t, "Back", m.Back(at), false)
		}
		m.Settle()
		empty(t, m)
		counts(t, "none", m, 0, 0)
	}
}

// P6.1: each call on a sector of each kind: just one is right, and the others change nothing.
func TestKinds(t *testing.T) {
	const at = 7
	kinds := map[string]func() *grants.Map{
		"free": func() *grants.Map { return grants.New(6, 9) },
		"held": func() *grants.Map {
			m := grants.New(6, 9)
			m.Hold(at)
			return m
		},
		"late": func() *grants.Map {
			m := grants.New(6, 9)
			m.Hold(at)
			m.Later(at)
			return m
		},
	}
	now := func(m *grants.Map) string {
		switch {
		case m.Free() == 3 && m.Late() == 0 && m.Held() == 0 && !m.Is(at) && len(m.All()) == 0:
			return "free"
		case m.Free() == 2 && m.Late() == 0 && m.Held() == 1 && m.Is(at) && slices.Equal(m.All(), []int{at}):
			return "held"
		case m.Free() == 2 && m.Late() == 1 && m.Held() == 0 && !m.Is(at) && len(m.All()) == 0:
			return "late"
		}
		return "mixed up"
	}
	calls := map[string]struct {
		do      func(m *grants.Map) bool
		was, is string
	}{
		"Hold":  {func(m *grants.Map) bool { return m.Hold(at) }, "free", "held"},
		"Give":  {func(m *grants.Map) bool { return m.Give(at) }, "held", "free"},
		"Later": {func(m *grants.Map) bool { return m.Later(at) }, "held", "late"},
		"Back":  {func(m *grants.Map) bool { return m.Back(at) }, "late", "held"},
	}
	for kind, begin := range kinds {
		if got := now(begin()); got != kind {
			t.Fatalf("%s: %s", kind, got)
		}
		for call, c := range calls {
			m := begin()
			did(t, call+" of a "+kind+" one", c.do(m), kind == c.was)
			want := kind
			if kind == c.was {
				want = c.is
			}
			if got := now(m); got != want {
				t.Errorf("%s of a %s one: %s", call, kind, got)
			}
		}
	}
}

// P6.1: the least free one is taken, behind Give, Later, Back and Settle, too.
func TestTake(t *testing.T) {
	m := grants.New(10, 16)
	for at := 10; at < 16; at++ {
		takes(t, m, at)
	}
	did(t, "Give", m.Give(14), true)
	did(t, "Give", m.Give(11), true)
	takes(t, m, 11)
	takes(t, m, 14)
	empty(t, m)
	did(t, "Later", m.Later(10), true)
	did(t, "Later", m.Later(12), true)
	empty(t, m)
	counts(t, "Later", m, 0, 2, 11, 13, 14, 15)
	did(t, "Give", m.Give(13), true)
	takes(t, m, 13)
	did(t, "Back", m.Back(10), true)
	empty(t, m)
	counts(t, "Back", m, 0, 1, 10, 11, 13, 14, 15)
	m.Settle()
	counts(t, "Settle", m, 1, 0, 10, 11, 13, 14, 15)
	takes(t, m, 12)
	empty(t, m)
	m.Settle()
	counts(t, "Settle again", m, 0, 0, 10, 11, 12, 13, 14, 15)
}

// P6.1: one that was held by name isn't taken, and one behind it is.
func TestHold(t *testing.T) {
	m := grants.New(3, 7)
	did(t, "Hold", m.Hold(3), true)
	did(t, "Hold again", m.Hold(3), false)
	did(t, "Hold", m.Hold(5), true)
	takes(t, m, 4)
	takes(t, m, 6)
	empty(t, m)
	counts(t, "all", m, 0, 0, 3, 4, 5, 6)
}

// P6.1: Settle frees what is late, all of it, and nothing else.
func TestSettle(t *testing.T) {
	m := grants.New(0, 6)
	for _, at := range []int{0, 2, 3, 5} {
		m.Hold(at)
	}
	m.Later(5)
	m.Later(0)
	m.Settle()
	counts(t, "Settle", m, 4, 0, 2, 3)
	did(t, "Back of one that was settled", m.Back(5), false)
	did(t, "Hold of one that was settled", m.Hold(5), true)
	takes(t, m, 0)
	counts(t, "behind", m, 2, 0, 0, 2, 3, 5)
}

// K3: what All answered stays as it was, and isn't what the map has.
func TestAllIsNew(t *testing.T) {
	m := grants.New(0, 4)
	m.Hold(1)
	m.Hold(2)
	l := m.All()
	m.Give(1)
	m.Hold(3)
	if !slices.Equal(l, []int{1, 2}) {
		t.Errorf("All: %v, when the map had changed", l)
	}
	l = m.All()
	clear(l)
	counts(t, "a list that was changed", m, 2, 0, 2, 3)
}

// K3: maps go their own ways.
func TestApart(t *testing.T) {
	a, b := grants.New(0, 3), grants.New(0, 3)
	takes(t, a, 0)
	takes(t, a, 1)
	a.Later(0)
	counts(t, "the other one", b, 3, 0)
	takes(t, b, 0)
	counts(t, "the one", a, 1, 1, 1)
}
