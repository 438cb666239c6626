// Package holding is what layers 11, 13 to 15 and 18 have in common in how they hold sectors of a heap (layer 10).
// It calls layers 3 and 10.
package holding

import (
	"stereobate/api"
	"stereobate/heap"
	"stereobate/pack"
)

// Whole: what fails has changed nothing, even where a Guard of the caller's goes on behind it.
func Whole(h *heap.Heap, run func()) {
	if e := h.Try(run); e != api.OK {
		pack.Fail(e)
	}
}

// Put: a sector that has these bytes. A heap may begin with sector 0, but who lies there would be told
// as one that is all noughts, or that isn't there: so the next one is taken.
func Put(h *heap.Heap, s string) int {
	at := 0
	Whole(h, func() {
		at = h.Put(s)
		if at == 0 {
			at = h.Put(s)
			h.Less(0)
		}
	})
	return at
}
