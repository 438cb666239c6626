// Package ask is what layers 20 and 22 to 24 have in common in how they ask an archive (layer 19) what lies in it.
// It calls layers 3, 15 and 19.
package ask

import (
	"stereobate/api"
	"stereobate/block"
	"stereobate/catalog"
	"stereobate/pack"
)

// Try: run asks, and changes nothing; it is a Try of the archive's heap, as maps are read within one alone. Of an
// archive that was cut nothing is told, even if there is power again; nor while there is none, though who asks for
// two maps that are one wouldn't come to read anything.
func Try(a *block.Archive, run func()) api.Errno {
	return a.Store().Heap.Try(func() {
		if a.Dead() || a.Store().Disk.Dead() {
			pack.Fail(api.ErrCut)
		}
		run()
	})
}

// Volume: a volume; ErrNone: there is none. It fails.
func Volume(a *block.Archive, id uint32) catalog.Entry {
	x, e := a.Info(id)
	if e != api.OK {
		pack.Fail(e)
	}
	return x
}
