package ask_test

import (
	"testing"

	"stereobate/api"
	"stereobate/ask"
	"stereobate/block"
	"stereobate/catalog"
	"stereobate/disk"
	"stereobate/pack"
	"stereobate/redo"
)

// mounted: an archive with a volume of some bytes.
func mounted(t *testing.T) (*disk.Disk, *block.Archive) {
	t.Helper()
	d := disk.New(100)
	if e := block.Format(d, 20, 256); e != api.OK {
		t.Fatal(e)
	}
	a, e := block.Mount(d)
	if e != api.OK {
		t.Fatal(e)
	}
	for _, o := range []redo.Op{{Kind: redo.Create, N: 5}, {Kind: redo.Write, ID: 1, At: 1, Data: string(make([]byte, 63)) + "x"}} {
		if _, e := a.Do(o); e != api.OK {
			t.Fatal(e)
		}
	}
	return d, a
}

// What runs may read maps; how it fails is told.
func TestTry(t *testing.T) {
	_, a := mounted(t)
	at := 0
	if e := ask.Try(a, func() { at = a.Store().Maps.Get(ask.Volume(a, 1).Root, 0) }); e != api.OK || at == 0 {
		t.Errorf("Try: %d, %d", at, e)
	}
	for e := api.OK; e <= api.ErrKind; e++ {
		if got := ask.Try(a, func() { pack.Fail(e) }); got != e {
			t.Errorf("Try: %d, not %d", got, e)
		}
	}
	if deep := a.Store().Heap.Log.Deep(); deep != 0 {
		t.Errorf("Deep: %d", deep)
	}
}

func TestVolume(t *testing.T) {
	_, a := mounted(t)
	for id := range uint32(5) {
		var x catalog.Entry
		e := ask.Try(a, func() { x = ask.Volume(a, id) })
		if y, want := a.Info(id); x != y || e != want {
			t.Errorf("Volume(%d): %+v, %d", id, x, e)
		}
	}
}

// Without power nothing runs; nor behind a cut within a call of the archive, though there is power again.
func TestTryCut(t *testing.T) {
	runs := func() { t.Error("it runs") }
	d, a := mounted(t)
	d.Arm(0)
	pack.Guard(d.Sync)
	if e := ask.Try(a, runs); e != api.ErrCut {
		t.Errorf("Try: %d", e)
	}
	if e := a.Flush(); e != api.ErrCut {
		t.Errorf("Flush: %d", e)
	}
	d.Crash()
	if e := ask.Try(a, runs); e != api.ErrCut {
		t.Errorf("Try: %d", e)
	}
}
