package block_test

import (
	"maps"
	"slices"
	"strings"
	"testing"

	"stereobate/api"
	"stereobate/block"
	"stereobate/catalog"
	"stereobate/disk"
	"stereobate/pack"
	"stereobate/redo"
	"stereobate/ring"
	"stereobate/sha"
	"stereobate/store"
)

// volume is one that has its own sectors.
type volume struct {
	entry catalog.Entry // without its root
	text  string
}

// extent: one of it, with bytes 0 behind its last sector.
func (v volume) extent(i int) string {
	s := v.text[i*256 : min(i*256+256, len(v.text))]
	return s + noughts(256-len(s))
}

// model is volumes by the document's words, in which there is always room.
type model struct {
	volumes map[uint32]volume
	next    uint32
	epoch   uint32
	address func(extent string) sha.Sum
}

// view: what is asked of such volumes, but digests.
func (m model) view() view {
	v := view{next: m.next}
	for _, id := range slices.Sorted(maps.Keys(m.volumes)) {
		v.entries = append(v.entries, m.volumes[id].entry)
		v.texts = append(v.texts, m.volumes[id].text)
	}
	return v
}

// with: another volume, or one in place of another one.
func (m model) with(v volume) model {
	m.volumes = maps.Clone(m.volumes)
	m.volumes[v.entry.ID] = v
	return m
}

// do: an op: the volumes behind it, a new one's number, and its error.
func (m model) do(o redo.Op) (model, uint32, api.Errno) {
	v, ok := m.volumes[o.ID]
	if o.Kind < redo.Create || o.Kind > redo.Trim {
		return m, 0, api.ErrKind
	}
	if o.Kind != redo.Create && !ok {
		return m, 0, api.ErrNone
	}
	switch o.Kind {
	case redo.Create:
		if o.N < 1 || o.N > 2048 {
			return m, 0, api.ErrArg
		}
		return m.add(volume{catalog.Entry{Size: o.N}, noughts(64 * o.N)})
	case redo.Snapshot, redo.Clone:
		v.entry.Parent, v.entry.Only = o.ID, o.Kind == redo.Snapshot
		return m.add(v)
	case redo.Delete:
		m.volumes = maps.Clone(m.volumes)
		delete(m.volumes, o.ID)
		return m, 0, api.OK
	}
	if v.entry.Only {
		return m, 0, api.ErrOnly
	}
	v, e := m.changed(v, o)
	if e != api.OK {
		return m, 0, e
	}
	return m.with(v), 0, api.OK
}

func (m model) add(v volume) (model, uint32, api.Errno) {
	if len(m.volumes) == 16 {
		return m, 0, api.ErrFull
	}
	v.entry.ID, v.entry.Born = m.next, m.epoch
	m.next++
	return m.with(v), v.entry.ID, api.OK
}

// changed: Resize, Write and Trim of a volume.
func (m model) changed(v volume, o redo.Op) (volume, api.Errno) {
	size := v.entry.Size
	switch o.Kind {
	case redo.Resize:
		if o.N < 1 || o.N > 2048 {
			return v, api.ErrArg
		}
		if o.N < size {
			w, e := m.trim(v, o.N, size-o.N)
			if e != api.OK {
				return v, e
			}
			v.text = w.text[:o.N*64]
		} else {
			v.text += noughts(64 * (o.N - size))
		}
		v.entry.Size = o.N
		return v, api.OK
	case redo.Write:
		if len(o.Data)%64 != 0 {
			return v, api.ErrArg
		}
		if o.At < 0 || o.At+len(o.Data)/64 > size {
			return v, api.ErrRange
		}
		return m.write(v, o.At, o.Data)
	}
	if o.At < 0 || o.N < 0 || o.At+o.N > size {
		return v, api.ErrRange
	}
	return m.trim(v, o.At, o.N)
}

// write: extent by extent; none may have the address of one that is unlike it.
func (m model) write(v volume, at int, data string) (volume, api.Errno) {
	for data != "" {
		n, was := min(64*(4-at%4), len(data)), v
		v.text = v.text[:64*at] + data[:n] + v.text[64*at+n:]
		if m.clashes(was, v.extent(at/4)) {
			return v, api.ErrClash
		}
		at, data = at+n/64, data[n:]
	}
	return v, api.OK
}

// clashes: is there an unlike extent with the address of one, in one volume as it is now, or in any other one?
func (m model) clashes(now volume, x string) bool {
	if m.address == nil || strings.Trim(x, "\x00") == "" {
		return false
	}
	for id, v := range m.volumes {
		if id == now.entry.ID {
			v = now
		}
		for i := range (len(v.text) + 255) / 256 {
			if y := v.extent(i); y != x && strings.Trim(y, "\x00") != "" && m.address(y) == m.address(x) {
				return true
			}
		}
	}
	return false
}

func (m model) trim(v volume, at, n int) (volume, api.Errno) {
	first, last := (at+3)/4, (at+n)/4
	if first >= last {
		return m.write(v, at, noughts(64*n))
	}
	v, e := m.write(v, at, noughts(64*(4*first-at)))
	if e != api.OK {
		return v, e
	}
	v.text = v.text[:256*first] + noughts(256*(last-first)) + v.text[256*last:]
	return m.write(v, 4*last, noughts(64*(at+n-4*last)))
}

// play is an archive, and what its volumes were behind each op since the last one that is sure.
type play struct {
	*box
	next   func(int) int
	bits   int
	models []model // the first one is sure
	texts  []string
	seen   map[string]int
}

func newPlay(t *testing.T, seed uint64, heap, journal, bits int, seen map[string]int) *play {
	t.Helper()
	p := &play{box: newBox(t, heap, journal, bits), next: noise(seed), bits: bits, seen: seen}
	p.models = []model{{volumes: map[uint32]volume{}, next: 1, epoch: 2, address: addresses(bits)}}
	p.texts = []string{noughts(256), sector("short") + noughts(192), noughts(192) + sector("behind")}
	for range 4 {
		p.texts = append(p.texts, some(p.next, 256))
	}
	return p
}

// addresses: of so many bits; of many bits no two are the same.
func addresses(bits int) func(string) sha.Sum {
	if bits > 50 {
		return nil
	}
	known := map[string]sha.Sum{}
	return func(s string) sha.Sum {
		sum, ok := known[s]
		if !ok {
			sum = sha.Of(s).Head(bits)
			known[s] = sum
		}
		return sum
	}
}

// now: the volumes as they are.
func (p *play) now() model {
	return p.models[len(p.models)-1]
}

// sure: they are so behind any crash.
func (p *play) sure() {
	m := p.now()
	m.epoch = p.epoch()
	p.models = []model{m}
}

// reads: each volume is as the model is.
func (p *play) reads(what string) {
	p.t.Helper()
	v := p.view()
	v.sums = nil
	if want := p.now().view(); v.differs(want) != "" {
		p.t.Fatalf("%s: %s: %+v, %d, not %+v, %d", what, v.differs(want), v.entries, v.next, want.entries, want.next)
	}
}

// some: a volume, seldom none that there is, or one that isn't to be written.
func (p *play) some() catalog.Entry {
	l := p.a.Entries()
	if len(l) == 0 || p.next(20) == 0 {
		return catalog.Entry{ID: uint32(p.next(int(p.a.Store().Next()) + 2)), Size: 1}
	}
	x := l[p.next(len(l))]
	for n := p.next(4); n > 0 && x.Only; n-- {
		x = l[p.next(len(l))]
	}
	return x
}

// data: so many sectors, often of extents that there are already.
func (p *play) data(n int) string {
	if p.next(3) == 0 {
		return some(p.next, n*64)
	}
	s := ""
	for len(s) < n*64 {
		s += p.texts[p.next(len(p.texts))]
	}
	return s[:n*64]
}

// op: some op, seldom of a wrong kind, or with other numbers that it doesn't take.
func (p *play) op() redo.Op {
	x := p.some()
	o := redo.Op{Kind: []int{1, 1, 2, 3, 4, 5, 6, 6, 6, 6, 6, 6, 7, 7, p.next(9)}[p.next(15)], ID: x.ID}
	if len(p.a.Entries()) == 0 && p.next(4) > 0 {
		o.Kind = redo.Create
	}
	o.At = p.next(x.Size)
	o.N = min(p.next(x.Size-o.At)+1, 1+p.next(30))
	if p.next(12) == 0 {
		o.At += []int{-1, -2, x.Size, 1 << 16}[p.next(4)]
		o.N += p.next(5) - 2
	}
	switch o.Kind {
	case redo.Create, redo.Resize:
		o.N = []int{1 + p.next(60), 1 + p.next(60), 1 + p.next(60), 1 + p.next(60), 1 + p.next(60), 1 + p.next(90), []int{0, -5, 2049}[p.next(3)]}[p.next(7)]
	case redo.Write:
		o.Data = p.data(max(o.N, 0))
		if p.next(15) == 0 {
			o.Data += "x"
		}
	}
	return o
}

var names = []string{"done", "", "", "", "arg", "none", "range", "only", "space", "clash", "base", "", "cut", "full", "", "kind"}

// one: some op: its answer; whether it stands in the journal, or a checkpoint was made.
func (p *play) one() api.Errno {
	p.t.Helper()
	o, now := p.op(), p.now()
	was, epoch, room := p.state(), p.epoch(), p.a.Room()
	then, id, want := now.do(o)
	got, e := p.a.Do(o)
	p.seen[names[e]]++
	switch {
	case e == api.ErrCut && p.d.Dead():
		if want == api.OK {
			p.models = append(p.models, then) // perhaps
		}
	case e == api.ErrSpace && (want == api.OK || want == api.ErrClash):
		p.turned(epoch + 1)
		p.noRoom(o)
	case e != want:
		p.t.Fatalf("Do of %+v: %d, %d, not %d", o, got, e, want)
	case e == api.ErrClash && p.epoch() > epoch: // there wasn't room to come so far ahead of a checkpoint
		p.turned(epoch + 1)
	case e != api.OK:
		p.same("refused", was)
	default:
		p.stood(o, then, epoch, room)
	}
	if e != api.OK {
		id = 0
	}
	if got != id {
		p.t.Fatalf("Do of %+v: %d, not %d", o, got, id)
	}
	return e
}

// turned: a checkpoint was made, of that epoch.
func (p *play) turned(epoch uint32) {
	p.t.Helper()
	if p.epoch() != epoch {
		p.t.Fatalf("a checkpoint: epoch %d, not %d", p.epoch(), epoch)
	}
	p.settled()
	p.sure()
}

// stood: an op was done: what became of the journal, of that epoch, with room for so many frames.
func (p *play) stood(o redo.Op, then model, epoch uint32, room int) {
	p.t.Helper()
	cost := ring.Cost(len(o.Bytes()))
	tries := 1
	if p.epoch() > epoch && (room >= cost || p.epoch() == epoch+2 || p.a.Room() != p.journal) {
		// There wasn't room, so a checkpoint was made ahead of it: it is done as if it were the first behind it.
		p.seen["done behind a checkpoint"]++
		p.sure()
		m := p.models[0]
		m.epoch = epoch + 1
		p.models[0] = m
		then, _, _ = m.do(o)
		epoch, room, tries = epoch+1, p.journal, 2
	}
	p.models = append(p.models, then)
	if cost <= room {
		if p.epoch() != epoch || p.a.Room() != room-cost {
			p.t.Fatalf("Do of kind %d, try %d: epoch %d, Room %d, not %d, %d", o.Kind, tries, p.epoch(), p.a.Room(), epoch, room-cost)
		}
		return
	}
	p.seen["checkpoint instead"]++
	p.fresh()
	p.turned(epoch + 1)
}

// noRoom: there wasn't room for an op, behind a checkpoint: P16.3 and P19.4 (by what layer 16 leaves free).
func (p *play) noRoom(o redo.Op) {
	p.t.Helper()
	volumes, heap := len(p.a.Entries()), p.a.Store().Heap
	if o.Kind == redo.Write && len(o.Data) > 0 && o.At/4 == (o.At+len(o.Data)/64-1)/4 {
		p.seen["no room for an extent"]++
		if len(p.reach())+volumes+8+2*volumes <= heap.Free()+heap.Held() {
			p.t.Fatalf("no room for an extent, with %d volumes and %d free sectors", volumes, heap.Free())
		}
	}
}

// change: ops, as one, which may be undone.
func (p *play) change() {
	p.t.Helper()
	was, epoch, now := p.state(), p.epoch(), p.now()
	end, space := []api.Errno{api.OK, api.ErrBase}[p.next(2)], false
	e := p.a.Change(func(t *store.Store) {
		for range p.next(4) {
			o := p.op()
			then, id, want := now.do(o)
			got, e := o.Do(t.Core)
			if e == api.ErrCut || e == api.ErrSpace {
				space = e == api.ErrSpace
				pack.Fail(e)
			}
			if e != want || e == api.OK && got != id {
				p.t.Fatalf("%+v: %d, %d, not %d, %d", o, got, e, id, want)
			}
			now = then
		}
		if end != api.OK {
			pack.Fail(end)
		}
	})
	p.seen["change: "+names[e]]++
	switch {
	case e == api.ErrCut && p.d.Dead():
		p.models = append(p.models, now)
	case e == api.ErrSpace && space, e == end && e != api.OK:
		p.same("a Change that failed", was)
	case e == api.OK && end == api.OK:
		p.models = append(p.models, now)
		p.fresh()
		p.turned(epoch + 1)
	default:
		p.t.Fatalf("Change: %d, not %d", e, end)
	}
}

// other: Flush, or Checkpoint.
func (p *play) other() {
	p.t.Helper()
	epoch := p.epoch()
	if p.next(3) > 0 {
		switch e := p.a.Flush(); {
		case e == api.OK:
			if p.d.Loose() != nil || p.epoch() != epoch {
				p.t.Fatalf("Flush: %v are loose, epoch %d", p.d.Loose(), p.epoch())
			}
			p.sure()
		case e != api.ErrCut || !p.d.Dead():
			p.t.Fatalf("Flush: %d", e)
		}
		return
	}
	switch e := p.a.Checkpoint(); {
	case e == api.OK:
		p.fresh()
		p.turned(epoch + 1)
	case e != api.ErrCut || !p.d.Dead():
		p.t.Fatalf("Checkpoint: %d", e)
	}
}

// cuts: how loose sectors are torn.
func (p *play) cuts() []int {
	var l []int
	kind := p.next(4)
	for range p.d.Len() {
		l = append(l, [][]int{{0, 0, 0}, {64, 64, 64}, {0, 64, p.next(65)}, {64, 64, p.next(65)}}[kind][p.next(3)])
	}
	return l
}

// mount: the archive behind a crash, and cuts of the power within Mount.
func (p *play) mount(d *disk.Disk) *box {
	p.t.Helper()
	d.Crash(p.cuts()...)
	for p.next(3) == 0 {
		d.Arm(p.next(25))
		a, e := block.Mount(d)
		if e == api.OK {
			d.Arm(1 << 30)
			return &box{p.t, d, a, p.journal}
		}
		if e != api.ErrCut || a != nil || !d.Dead() {
			p.t.Fatalf("Mount: %v, %d", a, e)
		}
		p.seen["cut within Mount"]++
		d.Crash(p.cuts()...)
	}
	return over(p.t, d)
}

// crash: wherever the power was cut, the volumes are as behind some first ops, all that are sure at least.
func (p *play) crash() {
	p.t.Helper()
	var views []view
	for _, m := range p.models {
		views = append(views, m.view())
	}
	var found int
	var b *box
	for range 1 + p.next(3) {
		b = p.mount(p.d.Clone())
		v := b.view()
		v.sums = nil
		found = -1
		for i, want := range views {
			if v.differs(want) == "" {
				found = i
			}
		}
		if found < 0 {
			p.t.Fatalf("behind a crash: as behind none of %d ops: %+v", len(views)-1, v.entries)
		}
		b.fresh()
	}
	p.seen["crash"]++
	if found < len(views)-1 {
		p.seen["lost"]++
	}
	if found > 0 {
		p.seen["done once more"]++
	}
	p.box = b
	p.models = p.models[:found+1]
	p.sure()
}

// round: some calls, and then perhaps a crash.
func (p *play) round() {
	p.t.Helper()
	if p.next(2) == 0 {
		p.d.Arm(p.next(90))
	} else {
		p.d.Arm(1 << 30)
	}
	for n := 1 + p.next(12); n > 0 && !p.d.Dead(); n-- {
		switch p.next(10) {
		case 0, 1:
			p.other()
		case 2:
			p.change()
		default:
			p.one()
		}
		if p.a.Dead() != p.d.Dead() {
			p.t.Fatalf("Dead: %v", p.a.Dead())
		}
	}
	if p.d.Dead() {
		p.isDead("cut", p.a.Entries())
		p.crash()
		return
	}
	p.reads("calls")
	if p.next(3) == 0 {
		p.crash()
	}
}

// isDead: nothing is done any more.
func (p *play) isDead(what string, was []catalog.Entry) {
	p.t.Helper()
	if id, e := p.a.Do(redo.Op{Kind: redo.Create, N: 1}); id != 0 || e != api.ErrCut {
		p.t.Fatalf("%s: Do: %d, %d", what, id, e)
	}
	if l := p.a.Entries(); !slices.Equal(l, was) {
		p.t.Fatalf("%s: Entries: %+v, not %+v", what, l, was)
	}
}

// P19.1, P19.2, P19.4: any calls, with much room and with little, in great journals and in small ones, cuts of the
// power anywhere, anything torn.
func TestModel(t *testing.T) {
	seen := map[string]int{}
	for _, c := range []struct{ heap, journal, bits, rounds int }{
		{32, 4, 256, 60}, {40, 30, 256, 60}, {60, 12, 256, 60}, {100, 60, 5, 60}, {150, 200, 256, 60}, {500, 9, 8, 40}, {1000, 20, 256, 40},
	} {
		for seed := range uint64(12) {
			p := newPlay(t, seed, c.heap, c.journal, c.bits, seen)
			for range c.rounds {
				p.round()
			}
		}
	}
	for what, n := range map[string]int{
		"done": 5000, "arg": 100, "none": 100, "range": 100, "only": 100, "space": 200, "clash": 50, "cut": 200, "full": 20, "kind": 100,
		"checkpoint instead": 200, "done behind a checkpoint": 50, "no room for an extent": 50, "crash": 500, "lost": 200, "done once more": 300,
		"cut within Mount": 200, "change: done": 200, "change: base": 200, "change: space": 30, "change: cut": 30,
	} {
		if seen[what] < n {
			t.Errorf("%s: %d times alone", what, seen[what])
		}
	}
}
