package undo_test

import (
	"maps"
	"runtime"
	"slices"
	"testing"
	"weak"

	"stereobate/api"
	"stereobate/pack"
	"stereobate/undo"
)

// fails: a Try that ends with that error.
func fails(t *testing.T, g *undo.Log, want api.Errno, run func()) {
	t.Helper()
	if e := g.Try(run); e != want {
		t.Errorf("Try: %d, not %d", e, want)
	}
}

// deep: within so many Tries.
func deep(t *testing.T, g *undo.Log, want int) {
	t.Helper()
	if n := g.Deep(); n != want {
		t.Errorf("Deep: %d, not %d", n, want)
	}
}

// P9.1: the document's example.
func TestExample(t *testing.T) {
	var g undo.Log
	x := 1
	fails(t, &g, api.ErrArg, func() {
		undo.Set(&g, &x, 2)
		undo.Set(&g, &x, 3)
		if x != 3 {
			t.Errorf("Set: %d", x)
		}
		pack.Fail(api.ErrArg)
	})
	if x != 1 {
		t.Errorf("behind a Try that failed: %d", x)
	}
}

// P9.1: Try answers run's error, whichever it is.
func TestErrors(t *testing.T) {
	for e := api.Errno(-3); e < 20; e++ {
		var g undo.Log
		x, ran := 1, 0
		fails(t, &g, e, func() {
			ran++
			undo.Set(&g, &x, 2)
			pack.Fail(e)
		})
		// An error that is none undoes nothing.
		want := 1
		if e == api.OK {
			want = 2
		}
		if x != want || ran != 1 {
			t.Errorf("error %d: %d, not %d; it ran %d times", e, x, want, ran)
		}
		deep(t, &g, 0)
	}
}

// P9.1: a Try that doesn't fail leaves all done, and what comes behind it undoes nothing of it.
func TestWorks(t *testing.T) {
	var g undo.Log
	x, m, steps := 1, map[string]int{"a": 1, "b": 2}, 0
	fails(t, &g, api.OK, func() {
		undo.Set(&g, &x, 2)
		undo.Put(&g, m, "a", 3)
		undo.Put(&g, m, "c", 4)
		undo.Drop(&g, m, "b")
		g.Back(func() { steps++ })
	})
	for range 2 {
		fails(t, &g, api.ErrCut, func() { pack.Fail(api.ErrCut) })
	}
	if x != 2 || steps != 0 || !maps.Equal(m, map[string]int{"a": 3, "c": 4}) {
		t.Errorf("behind the Try: %d, %v, %d steps back", x, m, steps)
	}
}

// P9.1: steps go back in their order, the last one first, each once.
func TestOrder(t *testing.T) {
	for n := range 40 {
		var g undo.Log
		var got, want []int
		fails(t, &g, api.ErrEnd, func() {
			for i := range n {
				g.Back(func() { got = append(got, i) })
				want = append(want, i)
			}
			if len(got) != 0 {
				t.Errorf("steps back ahead of the end: %v", got)
			}
			pack.Fail(api.ErrEnd)
		})
		slices.Reverse(want)
		if !slices.Equal(got, want) {
			t.Errorf("steps back: %v, not %v", got, want)
		}
		fails(t, &g, api.ErrEnd, func() { pack.Fail(api.ErrEnd) })
		if len(got) != n {
			t.Errorf("steps back once more: %v", got)
		}
	}
}

// P9.1: outside of all Tries all is done, and nothing is remembered, ahead of a Try and behind one.
func TestOutside(t *testing.T) {
	var g undo.Log
	x, m, steps := 1, map[int]int{1: 1, 2: 2}, 0
	do := func() {
		undo.Set(&g, &x, x+1)
		undo.Put(&g, m, 1, x)
		undo.Put(&g, m, 10+x, x)
		undo.Drop(&g, m, 2)
		undo.Drop(&g, m, 99)
		g.Back(func() { steps++ })
		deep(t, &g, 0)
	}
	do()
	fails(t, &g, api.ErrBig, func() { pack.Fail(api.ErrBig) })
	if x != 2 || steps != 0 || !maps.Equal(m, map[int]int{1: 2, 12: 2}) {
		t.Errorf("ahead of a Try: %d, %v, %d steps back", x, m, steps)
	}
	do()
	fails(t, &g, api.OK, func() {})
	do()
	fails(t, &g, api.ErrBig, func() {
		fails(t, &g, api.ErrNone, func() { pack.Fail(api.ErrNone) })
		pack.Fail(api.ErrBig)
	})
	if x != 4 || steps != 0 || !maps.Equal(m, map[int]int{1: 4, 12: 2, 13: 3, 14: 4}) {
		t.Errorf("behind a Try: %d, %v, %d steps back", x, m, steps)
	}
}

// P9.1: an inner Try that fails takes back its own steps, and none of the outer one's.
func TestInnerFails(t *testing.T) {
	var g undo.Log
	x, y, order := 1, 1, []string{}
	step := func(s string) {
		g.Back(func() { order = append(order, s) })
	}
	fails(t, &g, api.OK, func() {
		undo.Set(&g, &x, 2)
		step("a")
		fails(t, &g, api.ErrNone, func() {
			undo.Set(&g, &x, 3)
			undo.Set(&g, &y, 3)
			step("b")
			step("c")
			pack.Fail(api.ErrNone)
		})
		if x != 2 || y != 1 || !slices.Equal(order, []string{"c", "b"}) {
			t.Errorf("behind the inner one: %d, %d, %v", x, y, order)
		}
		undo.Set(&g, &y, 4)
		step("d")
	})
	if x != 2 || y != 4 || len(order) != 2 {
		t.Errorf("behind the outer one: %d, %d, %v", x, y, order)
	}
}

// P9.1: both fail: the inner one's steps are undone once, the outer one's behind them.
func TestBothFail(t *testing.T) {
	var g undo.Log
	var order []string
	x := "begin"
	step := func(s string) {
		undo.Set(&g, &x, s)
		g.Back(func() { order = append(order, s) })
	}
	fails(t, &g, api.ErrSum, func() {
		step("a")
		fails(t, &g, api.ErrNone, func() {
			step("b")
			pack.Fail(api.ErrNone)
		})
		if x != "a" {
			t.Errorf("behind the inner one: %s", x)
		}
		step("c")
		fails(t, &g, api.ErrRange, func() {
			step("d")
			pack.Fail(api.ErrRange)
		})
		pack.Fail(api.ErrSum)
	})
	if x != "begin" || !slices.Equal(order, []string{"b", "d", "c", "a"}) {
		t.Errorf("%s, %v", x, order)
	}
}

// P9.1: the outer one fails behind inner ones that didn't: theirs is undone, too, in its order.
func TestOuterFails(t *testing.T) {
	var g undo.Log
	var order []string
	m := map[string]int{"x": 1}
	step := func(s string, n int) {
		undo.Put(&g, m, "x", n)
		undo.Put(&g, m, s, n)
		g.Back(func() { order = append(order, s) })
	}
	fails(t, &g, api.ErrFull, func() {
		step("a", 2)
		fails(t, &g, api.OK, func() {
			step("b", 3)
			fails(t, &g, api.OK, func() { step("c", 4) })
			step("d", 5)
		})
		undo.Drop(&g, m, "x")
		step("e", 6)
		pack.Fail(api.ErrFull)
	})
	if !maps.Equal(m, map[string]int{"x": 1}) || !slices.Equal(order, []string{"e", "d", "c", "b", "a"}) {
		t.Errorf("%v, %v", m, order)
	}
}

// P9.1: what fails in an inner Try goes no further; what nobody caught between fails the outer one.
func TestThrough(t *testing.T) {
	var g undo.Log
	x, behind := 0, 0
	fails(t, &g, api.ErrKind, func() {
		undo.Set(&g, &x, 1)
		if e := g.Try(func() { pack.Fail(api.ErrBase) }); e != api.OK {
			pack.Fail(api.ErrKind)
		}
		behind++
	})
	if x != 0 || behind != 0 {
		t.Errorf("%d, %d", x, behind)
	}
}

// P9.1: what a Guard within a Try caught isn't an error of the Try, and what ran ahead of it stays done.
func TestGuardWithin(t *testing.T) {
	var g undo.Log
	x := 0
	run := func(end api.Errno) func() {
		return func() {
			e := pack.Guard(func() {
				undo.Set(&g, &x, x+1)
				deep(t, &g, 1)
				pack.Fail(api.ErrForm)
			})
			if e != api.ErrForm || x != 1 {
				t.Errorf("Guard: %d, %d", e, x)
			}
			deep(t, &g, 1)
			if end != api.OK {
				pack.Fail(end)
			}
		}
	}
	fails(t, &g, api.ErrCut, run(api.ErrCut))
	if x != 0 {
		t.Errorf("behind a Try that failed: %d", x)
	}
	fails(t, &g, api.OK, run(api.OK))
	if x != 1 {
		t.Errorf("behind a Try that didn't: %d", x)
	}
}

// P9.1: Deep, within Tries, and behind them, whether they fail or not.
func TestDeep(t *testing.T) {
	for _, end := range []api.Errno{api.OK, api.ErrSize} {
		var g undo.Log
		deep(t, &g, 0)
		var down func(n int)
		down = func(n int) {
			deep(t, &g, n)
			if n == 50 {
				return
			}
			fails(t, &g, end, func() {
				down(n + 1)
				deep(t, &g, n+1)
				fails(t, &g, api.OK, func() { deep(t, &g, n+2) })
				deep(t, &g, n+1)
				pack.Fail(end)
			})
			deep(t, &g, n)
		}
		down(0)
	}
}

// P9.1: Put and Drop of a key that was there, and of one that wasn't; a zero value isn't nothing.
func TestKeys(t *testing.T) {
	calls := map[string]func(g *undo.Log, m map[string]int){
		"Put":            func(g *undo.Log, m map[string]int) { undo.Put(g, m, "k", 7) },
		"Put of 0":       func(g *undo.Log, m map[string]int) { undo.Put(g, m, "k", 0) },
		"Drop":           func(g *undo.Log, m map[string]int) { undo.Drop(g, m, "k") },
		"Put, Drop":      func(g *undo.Log, m map[string]int) { undo.Put(g, m, "k", 8); undo.Drop(g, m, "k") },
		"Drop, Put":      func(g *undo.Log, m map[string]int) { undo.Drop(g, m, "k"); undo.Put(g, m, "k", 9) },
		"Drop, Drop":     func(g *undo.Log, m map[string]int) { undo.Drop(g, m, "k"); undo.Drop(g, m, "k") },
		"Put, Put":       func(g *undo.Log, m map[string]int) { undo.Put(g, m, "k", 1); undo.Put(g, m, "k", 2) },
		"Put of another": func(g *undo.Log, m map[string]int) { undo.Put(g, m, "l", 1) },
	}
	after := map[string]map[string]int{
		"Put": {"k": 7}, "Put of 0": {"k": 0}, "Drop": {}, "Put, Drop": {}, "Drop, Put": {"k": 9}, "Drop, Drop": {}, "Put, Put": {"k": 2},
	}
	for what, call := range calls {
		for _, was := range []map[string]int{{}, {"k": 0}, {"k": 5}, {"x": 1}, {"k": 5, "x": 0}} {
			want := maps.Clone(was)
			delete(want, "k")
			maps.Copy(want, after[what])
			if what == "Put of another" {
				want = maps.Clone(was)
				want["l"] = 1
			}
			var g undo.Log
			m := maps.Clone(was)
			fails(t, &g, api.ErrClash, func() {
				call(&g, m)
				if !maps.Equal(m, want) {
					t.Errorf("%s of %v: %v, not %v", what, was, m, want)
				}
				pack.Fail(api.ErrClash)
			})
			if !maps.Equal(m, was) {
				t.Errorf("%s of %v, undone: %v", what, was, m)
			}
			fails(t, &g, api.OK, func() { call(&g, m) })
			if !maps.Equal(m, want) {
				t.Errorf("%s of %v: %v, not %v", what, was, m, want)
			}
		}
	}
}

// P9.1: variables and tables of all kinds.
func TestKinds(t *testing.T) {
	type pair struct {
		a int
		b string
	}
	var g undo.Log
	n, s, p, list := 1, "a", pair{1, "x"}, []int{1, 2}
	two, any1, table := [2]int{1, 2}, any(1), map[int]int{1: 1}
	at, call := &n, func() int { return 1 }
	var none error
	byArray, byPair := map[[2]byte]string{{1, 2}: "a"}, map[pair][]int{{1, "x"}: {1}}
	fails(t, &g, api.ErrOnly, func() {
		undo.Set(&g, &n, 2)
		undo.Set(&g, &s, "b")
		undo.Set(&g, &p, pair{2, "y"})
		undo.Set(&g, &p.b, "z")
		undo.Set(&g, &list, []int{7})
		undo.Set(&g, &list, nil)
		undo.Set(&g, &two, [2]int{3, 4})
		undo.Set(&g, &two[1], 5)
		undo.Set(&g, &any1, any("x"))
		undo.Set(&g, &table, map[int]int{2: 2})
		undo.Set(&g, &at, nil)
		undo.Set(&g, &call, nil)
		undo.Set(&g, &none, error(nil))
		undo.Put(&g, byArray, [2]byte{1, 2}, "b")
		undo.Put(&g, byArray, [2]byte{2, 2}, "c")
		undo.Put(&g, byPair, pair{1, "x"}, nil)
		undo.Drop(&g, byPair, pair{1, "x"})
		if n != 2 || s != "b" || p != (pair{2, "z"}) || list != nil || two != [2]int{3, 5} || any1 != any("x") || table[2] != 2 || at != nil || call != nil || len(byArray) != 2 || len(byPair) != 0 {
			t.Error("within the Try")
		}
		pack.Fail(api.ErrOnly)
	})
	if n != 1 || s != "a" || p != (pair{1, "x"}) || !slices.Equal(list, []int{1, 2}) || two != [2]int{1, 2} || any1 != any(1) || !maps.Equal(table, map[int]int{1: 1}) || at != &n || call() != 1 || none != nil {
		t.Error("behind the Try: a variable")
	}
	if !maps.Equal(byArray, map[[2]byte]string{{1, 2}: "a"}) || len(byPair) != 1 || !slices.Equal(byPair[pair{1, "x"}], []int{1}) {
		t.Errorf("behind the Try: %v, %v", byArray, byPair)
	}
}

// P9.1: logs know nothing of each other.
func TestTwoLogs(t *testing.T) {
	var a, b undo.Log
	x, y := 1, 1
	fails(t, &a, api.ErrNone, func() {
		undo.Set(&a, &x, 2)
		undo.Set(&b, &y, 2)
		deep(t, &b, 0)
		fails(t, &b, api.ErrBig, func() {
			undo.Set(&a, &x, 3)
			undo.Set(&b, &y, 3)
			deep(t, &a, 1)
			deep(t, &b, 1)
			pack.Fail(api.ErrBig)
		})
		if x != 3 || y != 2 {
			t.Errorf("behind the inner one: %d, %d", x, y)
		}
		pack.Fail(api.ErrNone)
	})
	if x != 1 || y != 2 {
		t.Errorf("behind the outer one: %d, %d", x, y)
	}
}

// K1: a step that is none has nothing to undo.
func TestNoStep(t *testing.T) {
	var g undo.Log
	g.Back(nil)
	x := 1
	fails(t, &g, api.ErrEnd, func() {
		undo.Set(&g, &x, 2)
		g.Back(nil)
		pack.Fail(api.ErrEnd)
	})
	if x != 1 {
		t.Errorf("%d", x)
	}
}

// held: something that just a step has, remembered by one of these calls.
func held(call func(step func())) weak.Pointer[[100]int] {
	x := new([100]int)
	call(func() { x[0]++ })
	return weak.Make(x)
}

// P9.1: behind the outermost Try, and outside of all, no step is remembered, nor what it has.
func TestForgets(t *testing.T) {
	var g undo.Log
	for what, call := range map[string]func(step func()){
		"outside": g.Back,
		"OK":      func(step func()) { g.Try(func() { g.Back(step) }) },
		"failed":  func(step func()) { g.Try(func() { g.Back(step); pack.Fail(api.ErrEnd) }) },
		"within":  func(step func()) { g.Try(func() { g.Try(func() { g.Back(step) }) }) },
	} {
		w := held(call)
		runtime.GC()
		if w.Value() != nil {
			t.Errorf("%s: a step is remembered", what)
		}
	}
	runtime.KeepAlive(&g)
}
