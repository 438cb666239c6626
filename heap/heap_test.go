package heap_test

import (
	"math"
	"slices"
	"strings"
	"testing"

	"stereobate/api"
	"stereobate/disk"
	"stereobate/heap"
	"stereobate/pack"
)

// fails: a Try that ends with that error.
func fails(t *testing.T, h *heap.Heap, want api.Errno, run func()) {
	t.Helper()
	if e := h.Try(run); e != want {
		t.Errorf("Try: %d, not %d", e, want)
	}
}

// works: a Try that doesn't fail.
func works(t *testing.T, h *heap.Heap, run func()) {
	t.Helper()
	fails(t, h, api.OK, run)
}

// caught: a call within a Try that fails so, where the Try goes on.
func caught(t *testing.T, what string, want api.Errno, run func()) {
	t.Helper()
	if e := pack.Guard(run); e != want {
		t.Errorf("%s: %d, not %d", what, e, want)
	}
}

// counts: how many are free and late, and which are held.
func counts(t *testing.T, what string, h *heap.Heap, free, late int, held ...int) {
	t.Helper()
	if h.Free() != free || h.Late() != late || h.Held() != len(held) {
		t.Errorf("%s: %d free, %d late, %d held, not %d, %d, %d", what, h.Free(), h.Late(), h.Held(), free, late, len(held))
	}
	if l := h.All(); !slices.Equal(l, held) {
		t.Errorf("%s: All: %v, not %v", what, l, held)
	}
}

// refs: it is wanted by so many.
func refs(t *testing.T, h *heap.Heap, at, want int) {
	t.Helper()
	if n := h.Refs(at); n != want {
		t.Errorf("Refs(%d): %d, not %d", at, n, want)
	}
}

// puts: sectors that Put must answer, within a Try.
func puts(t *testing.T, h *heap.Heap, want ...int) {
	t.Helper()
	for _, w := range want {
		if at := h.Put(name(w)); at != w {
			t.Errorf("Put: %d, not %d", at, w)
		}
	}
}

// name: bytes of its own for each sector.
func name(at int) string {
	return "sector " + strings.Repeat("x", at%50) + string(rune('a'+at%26))
}

// full: a sector's bytes, with noughts behind.
func full(s string) string {
	return s + strings.Repeat("\x00", 64-len(s))
}

// gets: a held sector's bytes, within a Try.
func gets(t *testing.T, h *heap.Heap, at int, want string) {
	t.Helper()
	if s := h.Get(at); s != full(want) {
		t.Errorf("Get(%d): %q, not %q", at, s, want)
	}
}

// less: one less, within a Try.
func less(t *testing.T, h *heap.Heap, at int, want bool) {
	t.Helper()
	if h.Less(at) != want {
		t.Errorf("Less(%d): %v", at, !want)
	}
}

// adopt: outside of a Try; its answer and its error.
func adopt(t *testing.T, h *heap.Heap, at int, want bool, wantE api.Errno) {
	t.Helper()
	got := false
	if e := pack.Guard(func() { got = h.Adopt(at) }); e != wantE || got != want {
		t.Errorf("Adopt(%d): %v, %d, not %v, %d", at, got, e, want, wantE)
	}
}

// P10.1: the document's example.
func TestExample(t *testing.T) {
	h := heap.New(disk.New(6), 2)
	works(t, h, func() {
		puts(t, h, 2)
		less(t, h, 2, true)
		puts(t, h, 3)
		counts(t, "within it", h, 2, 1, 3)
	})
	counts(t, "behind it", h, 3, 0, 3)
	works(t, h, func() { puts(t, h, 2) })
}

// P10.1: heaps from 0 on, from the middle on, from the end on: all are free, and all can be put, rising.
func TestNew(t *testing.T) {
	for _, c := range []struct{ n, from int }{{0, 0}, {1, 0}, {1, 1}, {6, 0}, {6, 1}, {6, 3}, {6, 5}, {6, 6}, {100, 50}, {4096, 4094}, {4096, 4096}} {
		d := disk.New(c.n)
		h := heap.New(d, c.from)
		if h.Disk != d || h.Log == nil || h.Log.Deep() != 0 {
			t.Fatalf("New(%d, %d): %v, %v", c.n, c.from, h.Disk, h.Log)
		}
		counts(t, "New", h, c.n-c.from, 0)
		var all []int
		for at := c.from; at < c.n; at++ {
			refs(t, h, at, 0)
			works(t, h, func() { puts(t, h, at) })
			refs(t, h, at, 1)
			all = append(all, at)
		}
		fails(t, h, api.ErrSpace, func() { h.Put("x") })
		counts(t, "all", h, 0, 0, all...)
		for _, at := range all {
			works(t, h, func() { gets(t, h, at, name(at)) })
		}
		h.Settle()
		counts(t, "Settle", h, 0, 0, all...)
		fails(t, h, api.ErrSpace, func() { h.Put("x") })
	}
}

// P10.1: a sector's bytes, from none to as many as it has.
func TestBytes(t *testing.T) {
	h := heap.New(disk.New(5), 1)
	whole := strings.Repeat("w", 64)
	works(t, h, func() {
		for i, s := range []string{"", "\x00a\x00", whole} {
			if at := h.Put(s); at != i+1 {
				t.Errorf("Put: %d, not %d", at, i+1)
			}
		}
		gets(t, h, 1, "")
		gets(t, h, 2, "\x00a\x00")
		gets(t, h, 3, whole)
		caught(t, "Put of 65 bytes", api.ErrBig, func() { h.Put(whole + "w") })
		counts(t, "within the Try", h, 1, 0, 1, 2, 3)
		puts(t, h, 4)
	})
	fails(t, h, api.ErrSpace, func() { h.Put(whole + "w") })
}

// P10.1: Keep of as many as there are: Put with one more free than are to be left, and with none more.
func TestKeep(t *testing.T) {
	for keep := -3; keep < 9; keep++ {
		h := heap.New(disk.New(8), 3)
		works(t, h, func() { h.Keep(keep) })
		counts(t, "Keep", h, 5, 0)
		n := max(5-max(keep, 0), 0)
		for i := range n {
			works(t, h, func() { puts(t, h, 3+i) })
		}
		fails(t, h, api.ErrSpace, func() { h.Put("x") })
		if h.Free() != 5-n || h.Held() != n {
			t.Errorf("Keep(%d): %d free, %d held", keep, h.Free(), h.Held())
		}
		works(t, h, func() { h.Keep(0) })
		for i := n; i < 5; i++ {
			works(t, h, func() { puts(t, h, 3+i) })
		}
		fails(t, h, api.ErrSpace, func() { h.Put("x") })
	}
}

// P10.1: Keep at the ends of what numbers are.
func TestKeepFar(t *testing.T) {
	h := heap.New(disk.New(3), 1)
	works(t, h, func() {
		h.Keep(math.MaxInt)
		caught(t, "Put", api.ErrSpace, func() { h.Put("x") })
		h.Keep(math.MinInt)
		puts(t, h, 1)
		h.Keep(1)
		caught(t, "Put", api.ErrSpace, func() { h.Put("x") })
		h.Keep(-1)
		puts(t, h, 2)
	})
}

// P10.1: a Keep in a Try that fails, or in one within it, is none; else it holds behind its Try, and a Settle.
func TestKeepUndone(t *testing.T) {
	h := heap.New(disk.New(6), 2)
	fails(t, h, api.ErrNone, func() {
		h.Keep(4)
		caught(t, "Put", api.ErrSpace, func() { h.Put("x") })
		pack.Fail(api.ErrNone)
	})
	works(t, h, func() { puts(t, h, 2) })
	works(t, h, func() {
		h.Keep(2)
		fails(t, h, api.ErrBig, func() {
			h.Keep(0)
			puts(t, h, 3, 4, 5)
			pack.Fail(api.ErrBig)
		})
		puts(t, h, 3)
		caught(t, "Put", api.ErrSpace, func() { h.Put("x") })
	})
	h.Settle()
	fails(t, h, api.ErrSpace, func() { h.Put("x") })
	counts(t, "behind it", h, 2, 0, 2, 3)
}

// P10.1: late ones aren't free: Put leaves as many besides.
func TestKeepLate(t *testing.T) {
	h := heap.New(disk.New(4), 0)
	works(t, h, func() { puts(t, h, 0, 1) })
	h.Settle()
	works(t, h, func() { h.Keep(2); less(t, h, 0, true) })
	counts(t, "Less", h, 2, 1, 1)
	fails(t, h, api.ErrSpace, func() { h.Put("x") })
	h.Settle()
	works(t, h, func() { puts(t, h, 0) })
	fails(t, h, api.ErrSpace, func() { h.Put("x") })
}

// K2, P10.1: of several errors of Put the first one, and none of them changes anything but the power.
func TestPutErrors(t *testing.T) {
	long := strings.Repeat("l", 65)
	for _, c := range []struct {
		what      string
		free, arm int
		dead      bool
		s         string
		want      api.Errno
		power     bool
	}{
		{"no room", 0, -1, false, "x", api.ErrSpace, true},
		{"no room, too long", 0, -1, false, long, api.ErrSpace, true},
		{"no room, armed", 0, 0, false, "x", api.ErrSpace, true},
		{"no room, no power", 0, -1, true, "x", api.ErrSpace, false},
		{"no power", 1, -1, true, "x", api.ErrCut, false},
		{"no power, too long", 1, -1, true, long, api.ErrCut, false},
		{"too long", 1, -1, false, long, api.ErrBig, true},
		{"too long, armed", 1, 0, false, long, api.ErrBig, true},
		{"armed", 1, 0, false, "x", api.ErrCut, false},
		{"armed, one works yet", 1, 1, false, "x", api.OK, true},
	} {
		d := disk.New(5)
		h := heap.New(d, 2)
		works(t, h, func() { puts(t, h, 2, 3); h.Keep(1 - c.free) })
		if c.arm >= 0 || c.dead {
			d.Arm(max(c.arm, 0))
		}
		if c.dead {
			pack.Guard(d.Sync)
		}
		was := d.Clone()
		works(t, h, func() {
			at := 0
			caught(t, c.what, c.want, func() { at = h.Put(c.s) })
			if c.want == api.OK {
				counts(t, c.what, h, 0, 0, 2, 3, 4)
				return
			}
			if at != 0 {
				t.Errorf("%s: %d", c.what, at)
			}
			counts(t, c.what, h, 1, 0, 2, 3)
			refs(t, h, 4, 0)
		})
		if d.Dead() == c.power {
			t.Errorf("%s: Dead: %v", c.what, d.Dead())
		}
		d.Crash(64, 64, 64, 64, 64)
		was.Crash(64, 64, 64, 64, 64)
		if c.want != api.OK && !slices.Equal(sectors(d), sectors(was)) {
			t.Errorf("%s: %q, not %q", c.what, sectors(d), sectors(was))
		}
	}
}

// sectors: what is there.
func sectors(d *disk.Disk) []string {
	var l []string
	for at := range d.Len() {
		pack.Guard(func() { l = append(l, d.Read(at)) })
	}
	return l
}

// P10.1: a sector that Put couldn't write is the next that it takes, and a Try that goes on, or fails, has nothing of it.
func TestPutCut(t *testing.T) {
	d := disk.New(8)
	h := heap.New(d, 2)
	works(t, h, func() { puts(t, h, 2) })
	d.Arm(1)
	fails(t, h, api.ErrCut, func() {
		puts(t, h, 3)
		h.More(2)
		h.Put("x")
	})
	counts(t, "cut", h, 5, 0, 2)
	refs(t, h, 2, 1)
	fails(t, h, api.ErrCut, func() { h.Put("x") })
	fails(t, h, api.ErrCut, func() { h.Get(2) })
	works(t, h, func() { h.More(2); less(t, h, 2, false) })
	d.Crash(64, 64)
	works(t, h, func() {
		puts(t, h, 3)
		gets(t, h, 2, name(2))
	})
	counts(t, "power again", h, 4, 0, 2, 3)
}

// P10.1: a sector that isn't held: free, late, below the first, behind the end.
func TestRange(t *testing.T) {
	d := disk.New(8)
	h := heap.New(d, 3)
	works(t, h, func() { puts(t, h, 3, 4, 5) })
	h.Settle()
	works(t, h, func() { less(t, h, 4, true) })
	check := func(what string) {
		t.Helper()
		for _, at := range []int{4, 6, 7, 8, 9, 2, 1, 0, -1, -3, math.MinInt, math.MaxInt, 1<<32 + 3, 3 - 1<<32} {
			refs(t, h, at, 0)
			fails(t, h, api.ErrRange, func() { h.Get(at) })
			fails(t, h, api.ErrRange, func() { h.More(at) })
			fails(t, h, api.ErrRange, func() { h.Less(at) })
			works(t, h, func() {
				caught(t, "Get", api.ErrRange, func() { h.Get(at) })
				caught(t, "More", api.ErrRange, func() { h.More(at) })
				caught(t, "Less", api.ErrRange, func() { h.Less(at) })
			})
			counts(t, what, h, 2, 1, 3, 5)
		}
	}
	check("with power")
	d.Arm(0)
	pack.Guard(d.Sync)
	check("without power") // that it isn't held is named first
	fails(t, h, api.ErrCut, func() { h.Get(3) })
}

// P10.1: More and Less: it is held as long as somebody wants it.
func TestRefs(t *testing.T) {
	h := heap.New(disk.New(6), 2)
	works(t, h, func() { puts(t, h, 2, 3) })
	h.Settle()
	for n := 1; n < 10; n++ {
		refs(t, h, 2, n)
		works(t, h, func() { h.More(2) })
	}
	refs(t, h, 3, 1)
	for n := 10; n > 1; n-- {
		refs(t, h, 2, n)
		works(t, h, func() { gets(t, h, 2, name(2)); less(t, h, 2, false) })
		counts(t, "Less", h, 2, 0, 2, 3)
	}
	works(t, h, func() { less(t, h, 2, true) })
	refs(t, h, 2, 0)
	counts(t, "Less to nobody", h, 2, 1, 3)
}

// P10.1: Less to nobody of a young one: it is late till the outermost Try ends, and free behind it.
func TestLessYoung(t *testing.T) {
	h := heap.New(disk.New(7), 2)
	works(t, h, func() { puts(t, h, 2, 3) })
	works(t, h, func() {
		works(t, h, func() {
			less(t, h, 2, true)
			counts(t, "within", h, 3, 1, 3)
		})
		counts(t, "behind the inner one", h, 3, 1, 3)
		puts(t, h, 4)
		less(t, h, 4, true)
		counts(t, "put and let go in one Try", h, 2, 2, 3)
		puts(t, h, 5)
	})
	counts(t, "behind all", h, 3, 0, 3, 5)
	works(t, h, func() { puts(t, h, 2, 4, 6) })
	fails(t, h, api.ErrSpace, func() { h.Put("x") })
}

// P10.1: Less to nobody of one that isn't young: it is late till the next Settle.
func TestLessOld(t *testing.T) {
	h := heap.New(disk.New(7), 2)
	works(t, h, func() { puts(t, h, 2, 3) })
	h.Settle()
	works(t, h, func() { puts(t, h, 4) })
	works(t, h, func() {
		less(t, h, 3, true)
		less(t, h, 4, true)
		counts(t, "within", h, 2, 2, 2)
	})
	counts(t, "behind it", h, 3, 1, 2)
	for _, at := range []int{4, 5, 6} {
		works(t, h, func() { puts(t, h, at) })
	}
	fails(t, h, api.ErrSpace, func() { h.Put("x") })
	h.Settle()
	counts(t, "Settle", h, 1, 0, 2, 4, 5, 6)
	works(t, h, func() { puts(t, h, 3) })
}

// P10.1: what was let go in a Try that fails is held again, by as many, as young as it was.
func TestLessUndone(t *testing.T) {
	h := heap.New(disk.New(8), 2)
	works(t, h, func() { puts(t, h, 2) })
	h.Settle()
	works(t, h, func() { puts(t, h, 3); h.More(3) })
	undone := func(where string, free int) {
		t.Helper()
		counts(t, where, h, free, 0, 2, 3)
		refs(t, h, 2, 1)
		refs(t, h, 3, 2)
		works(t, h, func() { gets(t, h, 2, name(2)); gets(t, h, 3, name(3)) })
	}
	run := func() {
		less(t, h, 2, true)
		less(t, h, 3, false)
		less(t, h, 3, true)
		puts(t, h, 4)
		less(t, h, 4, true)
		puts(t, h, 5)
		counts(t, "within", h, 2, 3, 5)
		pack.Fail(api.ErrNone)
	}
	fails(t, h, api.ErrNone, run)
	undone("the outermost one failed", 4)
	works(t, h, func() {
		fails(t, h, api.ErrNone, run)
		undone("the inner one failed", 4)
	})
	undone("the outermost one didn't fail", 4)
	fails(t, h, api.ErrBig, func() {
		works(t, h, func() {
			less(t, h, 2, true)
			less(t, h, 3, false)
			less(t, h, 3, true)
			puts(t, h, 4)
			less(t, h, 4, true)
		})
		pack.Fail(api.ErrBig)
	})
	undone("the outermost one failed behind an inner one", 4)
	works(t, h, func() { less(t, h, 2, true); less(t, h, 3, false); less(t, h, 3, true) })
	counts(t, "let go", h, 5, 1) // the one is late, the other one was young still
}

// P10.1: of those that were let go in one Try, those that weren't undone are free, and no others.
func TestSomeUndone(t *testing.T) {
	h := heap.New(disk.New(12), 0)
	works(t, h, func() { puts(t, h, 0, 1, 2, 3, 4, 5) })
	works(t, h, func() {
		less(t, h, 0, true)
		fails(t, h, api.ErrNone, func() {
			less(t, h, 1, true)
			works(t, h, func() { less(t, h, 2, true) })
			pack.Fail(api.ErrNone)
		})
		less(t, h, 3, true)
		fails(t, h, api.ErrNone, func() {
			less(t, h, 4, true)
			less(t, h, 1, true)
			pack.Fail(api.ErrNone)
		})
		less(t, h, 5, true)
		counts(t, "within", h, 6, 3, 1, 2, 4)
	})
	counts(t, "behind it", h, 9, 0, 1, 2, 4)
	works(t, h, func() {
		for _, at := range []int{1, 2, 4} {
			gets(t, h, at, name(at))
		}
		puts(t, h, 0, 3, 5, 6)
	})
}

// P10.1: a Try that failed leaves nothing that the next one would free.
func TestNextTry(t *testing.T) {
	h := heap.New(disk.New(4), 0)
	works(t, h, func() { puts(t, h, 0, 1) })
	fails(t, h, api.ErrNone, func() { less(t, h, 0, true); pack.Fail(api.ErrNone) })
	works(t, h, func() {})
	counts(t, "an empty Try", h, 2, 0, 0, 1)
	works(t, h, func() { less(t, h, 0, true) })
	works(t, h, func() { puts(t, h, 0) })
	works(t, h, func() {})
	counts(t, "put again", h, 2, 0, 0, 1)
}

// P10.1: a Put that is undone is none: the sector is free, and the next one takes it.
func TestPutUndone(t *testing.T) {
	h := heap.New(disk.New(6), 2)
	works(t, h, func() {
		puts(t, h, 2)
		fails(t, h, api.ErrNone, func() {
			puts(t, h, 3, 4)
			h.More(3)
			h.More(2)
			pack.Fail(api.ErrNone)
		})
		counts(t, "the inner one failed", h, 3, 0, 2)
		refs(t, h, 2, 1)
		refs(t, h, 3, 0)
		puts(t, h, 3)
		refs(t, h, 3, 1)
	})
	fails(t, h, api.ErrSpace, func() {
		puts(t, h, 4, 5)
		h.Put("x")
	})
	counts(t, "the outermost one failed", h, 2, 0, 2, 3)
}

// P10.1: Adopt of a held one, of a free one, of a late one, and of what isn't of the heap.
func TestAdopt(t *testing.T) {
	d := disk.New(8)
	pack.Guard(func() { d.Write(6, "six") })
	h := heap.New(d, 2)
	works(t, h, func() { puts(t, h, 2, 3) })
	h.Settle()
	works(t, h, func() { less(t, h, 3, true) })
	adopt(t, h, 2, false, api.OK)
	adopt(t, h, 2, false, api.OK)
	refs(t, h, 2, 3)
	adopt(t, h, 3, false, api.ErrRange)
	for _, at := range []int{1, 0, -1, 8, 9, math.MinInt, math.MaxInt} {
		adopt(t, h, at, false, api.ErrRange)
		refs(t, h, at, 0)
	}
	counts(t, "errors", h, 4, 1, 2)
	adopt(t, h, 6, true, api.OK)
	refs(t, h, 6, 1)
	adopt(t, h, 6, false, api.OK)
	refs(t, h, 6, 2)
	counts(t, "Adopt", h, 3, 1, 2, 6)
	works(t, h, func() {
		gets(t, h, 6, "six")
		puts(t, h, 4, 5, 7)
	})
	adopt(t, h, 4, false, api.OK)
	refs(t, h, 4, 2)
	h.Settle()
	adopt(t, h, 3, true, api.OK)
	counts(t, "behind a Settle", h, 0, 0, 2, 3, 4, 5, 6, 7)
}

// P10.1: one that was adopted isn't young; one that was put is still, if it was adopted, too.
func TestAdoptYoung(t *testing.T) {
	h := heap.New(disk.New(6), 2)
	adopt(t, h, 2, true, api.OK)
	works(t, h, func() { puts(t, h, 3) })
	adopt(t, h, 3, false, api.OK)
	works(t, h, func() {
		less(t, h, 2, true)
		less(t, h, 3, false)
		less(t, h, 3, true)
	})
	counts(t, "let go", h, 3, 1)
	works(t, h, func() { puts(t, h, 3, 4, 5) })
	fails(t, h, api.ErrSpace, func() { h.Put("x") })
}

// P10.1: Adopt reads and writes nothing: it works without power.
func TestAdoptCut(t *testing.T) {
	d := disk.New(4)
	h := heap.New(d, 1)
	d.Arm(0)
	pack.Guard(d.Sync)
	adopt(t, h, 2, true, api.OK)
	adopt(t, h, 2, false, api.OK)
	adopt(t, h, 0, false, api.ErrRange)
	h.Settle()
	counts(t, "Adopt", h, 2, 0, 2)
}

// P10.1: Settle: all late ones are free, none is young.
func TestSettle(t *testing.T) {
	h := heap.New(disk.New(6), 1)
	h.Settle()
	counts(t, "nothing", h, 5, 0)
	works(t, h, func() { puts(t, h, 1, 2, 3) })
	h.Settle()
	h.Settle()
	works(t, h, func() { less(t, h, 1, true); less(t, h, 3, true) })
	counts(t, "none is young", h, 2, 2, 2)
	h.Settle()
	counts(t, "none is late", h, 4, 0, 2)
	refs(t, h, 2, 1)
	works(t, h, func() { puts(t, h, 1, 3, 4); gets(t, h, 2, name(2)) })
}

// P10.1: the Log is the heap's own: what others remember there goes back with it, in its order.
func TestLog(t *testing.T) {
	h := heap.New(disk.New(6), 2)
	var order []int
	fails(t, h, api.ErrSum, func() {
		if h.Log.Deep() != 1 {
			t.Errorf("Deep: %d", h.Log.Deep())
		}
		h.Log.Back(func() { order = append(order, h.Held()) })
		puts(t, h, 2)
		h.Log.Back(func() { order = append(order, h.Held()) })
		if e := h.Log.Try(func() { puts(t, h, 3); pack.Fail(api.ErrEnd) }); e != api.ErrEnd {
			t.Errorf("the Log's Try: %d", e)
		}
		counts(t, "a Try of the Log within", h, 3, 0, 2)
		h.Log.Try(func() { puts(t, h, 3); less(t, h, 3, true) })
		counts(t, "another one", h, 2, 1, 2)
		pack.Fail(api.ErrSum)
	})
	if !slices.Equal(order, []int{1, 0}) {
		t.Errorf("steps back: held %v", order)
	}
	counts(t, "behind it", h, 4, 0)
	a, b := heap.New(disk.New(3), 0), heap.New(disk.New(3), 0)
	if a.Log == b.Log {
		t.Error("two heaps have one Log")
	}
}

// K3: what All answered stays as it was, and isn't what the heap has.
func TestAllIsNew(t *testing.T) {
	h := heap.New(disk.New(6), 2)
	works(t, h, func() { puts(t, h, 2, 3) })
	l := h.All()
	works(t, h, func() { less(t, h, 2, true); puts(t, h, 4) })
	if !slices.Equal(l, []int{2, 3}) {
		t.Errorf("All: %v, when the heap had changed", l)
	}
	clear(h.All())
	counts(t, "a list that was changed", h, 2, 0, 3, 4)
}
