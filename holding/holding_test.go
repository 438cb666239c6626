package holding_test

import (
	"slices"
	"strings"
	"testing"

	"stereobate/api"
	"stereobate/disk"
	"stereobate/heap"
	"stereobate/holding"
	"stereobate/pack"
)

// What fails within a Guard of a Try that goes on has changed nothing, and the Guard answers its error.
func TestWhole(t *testing.T) {
	h := heap.New(disk.New(10), 2)
	e := h.Try(func() {
		first := h.Put("first")
		if e := pack.Guard(func() {
			holding.Whole(h, func() {
				h.More(first)
				h.Put("second")
				pack.Fail(api.ErrKind)
			})
		}); e != api.ErrKind {
			t.Errorf("Whole of what fails: %d", e)
		}
		holding.Whole(h, func() { h.Put("third") })
	})
	if e != api.OK || !slices.Equal(h.All(), []int{2, 3}) || h.Refs(2) != 1 {
		t.Errorf("%d: %v are held, the first wanted by %d", e, h.All(), h.Refs(2))
	}
}

// Sector 0 is passed over, and stays free; of any other heap the least free one is taken, with one write.
func TestPut(t *testing.T) {
	for from := range 4 {
		d := disk.New(6)
		h := heap.New(d, from)
		first := max(from, 1)
		e := h.Try(func() {
			for i := range 6 - first {
				s := strings.Repeat(string(rune('a'+i)), 64)
				if at := holding.Put(h, s); at != first+i || h.Refs(at) != 1 || h.Get(at) != s {
					t.Errorf("from %d: Put: %d, not %d", from, at, first+i)
				}
			}
			if e := pack.Guard(func() { holding.Put(h, "more") }); e != api.ErrSpace {
				t.Errorf("from %d: Put without room: %d", from, e)
			}
		})
		if e != api.OK || h.Held() != 6-first || h.Late() != 0 || h.Refs(0) != 0 {
			t.Errorf("from %d: %d: %v are held, %d late", from, e, h.All(), h.Late())
		}
	}
}

// With room for sector 0 alone, or power for it alone, nothing is put, and nothing held.
func TestPutFails(t *testing.T) {
	for _, want := range []api.Errno{api.ErrSpace, api.ErrCut} {
		d := disk.New(2)
		h := heap.New(d, 0)
		e := h.Try(func() {
			if want == api.ErrSpace {
				h.Keep(1)
			} else {
				d.Arm(1)
			}
			if e := pack.Guard(func() { holding.Put(h, "x") }); e != want {
				t.Errorf("Put: %d, not %d", e, want)
			}
			if h.Held() != 0 || h.Free() != 2 {
				t.Errorf("Put that failed with %d: %v are held", want, h.All())
			}
		})
		if e != api.OK || h.Held() != 0 || h.Free() != 2 {
			t.Errorf("%d: %v are held", e, h.All())
		}
	}
}
