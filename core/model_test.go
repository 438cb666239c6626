package core_test

import (
	"maps"
	"slices"
	"strings"
	"testing"

	"stereobate/api"
	"stereobate/catalog"
	"stereobate/pack"
	"stereobate/sha"
)

// extents are told by which of a few texts each of its sectors has; 0: it is bytes 0.
type ext [4]int

// volume is one that has its own sectors.
type volume struct {
	entry   catalog.Entry // without its root
	sectors []int
}

// at: an extent of it.
func (v volume) at(i int) ext {
	var x ext
	copy(x[:], v.sectors[i*4:min(i*4+4, len(v.sectors))])
	return x
}

func (v volume) extents() int {
	return (len(v.sectors) + 3) / 4
}

func (v volume) clone() volume {
	v.sectors = slices.Clone(v.sectors)
	return v
}

// model is volumes by the document's words.
type model struct {
	volumes     map[uint32]volume
	next, epoch uint32
}

// clone: volumes aren't changed, but put in place of others.
func (m model) clone() model {
	m.volumes = maps.Clone(m.volumes)
	return m
}

// kept: the extents that are there, in one volume as it is now, and in all others.
func (m model) kept(now volume) map[ext]struct{} {
	l := map[ext]struct{}{}
	for id, v := range m.volumes {
		if id == now.entry.ID {
			v = now
		}
		for i := range v.extents() {
			l[v.at(i)] = struct{}{}
		}
	}
	delete(l, ext{})
	return l
}

// play is volumes and their model.
type play struct {
	*box
	next    func(int) int
	want    model
	texts   []string // of the sectors
	address map[ext]sha.Sum
	seen    map[string]int
}

func newPlay(t *testing.T, seed uint64, n, from, bits int, seen map[string]int) *play {
	p := &play{box: newBox(t, n, from, bits), next: noise(seed), address: map[ext]sha.Sum{}, seen: seen}
	p.want = model{map[uint32]volume{}, 1, 1}
	p.texts = []string{noughts(64)}
	for range 3 {
		p.texts = append(p.texts, some(p.next, 64))
	}
	p.texts = append(p.texts, sector("short"), noughts(63)+"x")
	return p
}

func (p *play) text(l []int) string {
	var s strings.Builder
	for _, i := range l {
		s.WriteString(p.texts[i])
	}
	return s.String()
}

// clashes: would an extent be unlike one of its address that is kept?
func (p *play) clashes(x ext, kept map[ext]struct{}) bool {
	if x == (ext{}) {
		return false
	}
	for y := range kept {
		if x != y && p.of(x) == p.of(y) {
			return true
		}
	}
	return false
}

func (p *play) of(x ext) sha.Sum {
	sum, ok := p.address[x]
	if !ok {
		sum = sha.Of(p.text(x[:])).Head(p.bits)
		p.address[x] = sum
	}
	return sum
}

// write: the model's: of a volume, with other sectors from one on, extent by extent; false: two clash.
func (p *play) write(v volume, at int, l []int) (volume, bool) {
	v = v.clone()
	for len(l) > 0 {
		n, kept := min(4-at%4, len(l)), p.want.kept(v)
		copy(v.sectors[at:], l[:n])
		if p.clashes(v.at(at/4), kept) {
			return v, false
		}
		at, l = at+n, l[n:]
	}
	return v, true
}

// trim: the model's, likewise.
func (p *play) trim(v volume, at, n int) (volume, bool) {
	first, last := (at+3)/4, (at+n)/4
	if first >= last {
		return p.write(v, at, make([]int, n))
	}
	v, ok := p.write(v, at, make([]int, first*4-at))
	if !ok {
		return v, false
	}
	clear(v.sectors[first*4 : last*4])
	return p.write(v, last*4, make([]int, at+n-last*4))
}

// some: any sectors, often the same ones.
func (p *play) some(n int) []int {
	l := make([]int, n)
	one := p.next(len(p.texts))
	for i := range l {
		if p.next(3) == 0 {
			one = p.next(len(p.texts))
		}
		l[i] = one
	}
	return l
}

// id: a volume's number, seldom of none.
func (p *play) id() uint32 {
	l := slices.Sorted(maps.Keys(p.want.volumes))
	if len(l) == 0 || p.next(20) == 0 {
		return uint32(p.next(int(p.want.next) + 2))
	}
	return l[p.next(len(l))]
}

// place: somewhere in a volume, and how many sectors, seldom out of it.
func (p *play) place(size int) (int, int) {
	if p.next(12) == 0 {
		return p.next(size+4) - 2, p.next(size + 4)
	}
	at := p.next(size + 1)
	n := p.next(size + 1 - at)
	if p.next(2) == 0 {
		n = min(n, p.next(9))
	}
	return at, n
}

// told: what a call may answer but no power: its number, and its error; what the volumes are if there is none;
// for how much room ErrSpace may be told.
type told struct {
	id   uint32
	e    api.Errno
	then model
	room int
}

// call: some call, and what it may answer.
func (p *play) call() (string, func() (uint32, api.Errno), told) {
	id := p.id()
	v, ok := p.want.volumes[id]
	size := []int{1, 2, 3, 4, 5, 8, 11, 16, 33, 70}[p.next(10)]
	switch kind := p.next(14); {
	case kind < 1:
		size += []int{0, 0, 0, 0, -80, 2048}[p.next(6)]
		return "Create", func() (uint32, api.Errno) { return p.c.Create(size) }, p.create(size)
	case kind < 2:
		return "Snapshot", func() (uint32, api.Errno) { return p.c.Snapshot(id) }, p.copy(v, ok, true)
	case kind < 3:
		return "Clone", func() (uint32, api.Errno) { return p.c.Clone(id) }, p.copy(v, ok, false)
	case kind < 4:
		return "Delete", func() (uint32, api.Errno) { return 0, p.c.Delete(id) }, p.delete(id, ok)
	case kind < 5:
		size += []int{0, 0, 0, 0, -80, 2048}[p.next(6)]
		return "Resize", func() (uint32, api.Errno) { return 0, p.c.Resize(id, size) }, p.resize(v, ok, size)
	case kind < 7:
		at, n := p.place(len(v.sectors))
		return "Trim", func() (uint32, api.Errno) { return 0, p.c.Trim(id, at, n) }, p.trimmed(v, ok, at, n)
	}
	at, n := p.place(len(v.sectors))
	l, more := p.some(n), ""
	if p.next(15) == 0 {
		more = "no sector"
	}
	return "Write", func() (uint32, api.Errno) { return 0, p.c.Write(id, at, p.text(l)+more) }, p.written(v, ok, at, l, more != "")
}

// made: what is told of a new volume.
func (p *play) made(x catalog.Entry, sectors []int) told {
	n := len(p.want.volumes) + 1
	switch {
	case n > 16:
		return told{e: api.ErrFull}
	case p.h.Free() < 2*n:
		return told{e: api.ErrSpace}
	}
	x.ID, x.Born = p.want.next, p.want.epoch
	then := p.want.clone()
	then.volumes[x.ID] = volume{x, sectors}
	then.next++
	return told{id: x.ID, then: then}
}

func (p *play) create(size int) told {
	if size < 1 || size > 2048 {
		return told{e: api.ErrArg}
	}
	return p.made(catalog.Entry{Size: size}, make([]int, size))
}

func (p *play) copy(v volume, ok, only bool) told {
	if !ok {
		return told{e: api.ErrNone}
	}
	return p.made(catalog.Entry{Parent: v.entry.ID, Only: only, Size: v.entry.Size}, v.sectors)
}

func (p *play) delete(id uint32, ok bool) told {
	if !ok {
		return told{e: api.ErrNone}
	}
	then := p.want.clone()
	delete(then.volumes, id)
	return told{then: then}
}

// writable: what stands in the way of a change of a volume.
func writable(v volume, ok bool) api.Errno {
	switch {
	case !ok:
		return api.ErrNone
	case v.entry.Only:
		return api.ErrOnly
	}
	return api.OK
}

func within(v volume, at, n int) bool {
	return at >= 0 && n >= 0 && at+n <= len(v.sectors)
}

// changed: what is told of a change of a volume that takes at most so many sectors.
func (p *play) changed(v volume, ok bool, room int) told {
	if !ok {
		return told{e: api.ErrClash, room: room}
	}
	then := p.want.clone()
	then.volumes[v.entry.ID] = v
	return told{then: then, room: room}
}

func (p *play) resize(v volume, ok bool, size int) told {
	e := writable(v, ok)
	if e == api.OK && (size < 1 || size > 2048) {
		e = api.ErrArg
	}
	if e != api.OK {
		return told{e: e}
	}
	if n := len(v.sectors) - size; n > 0 {
		v, ok = p.trim(v, size, n)
	}
	now := volume{v.entry, make([]int, size)}
	copy(now.sectors, v.sectors)
	now.entry.Size = size
	return p.changed(now, ok, 16+3*v.extents())
}

func (p *play) trimmed(v volume, ok bool, at, n int) told {
	e := writable(v, ok)
	if e == api.OK && !within(v, at, n) {
		e = api.ErrRange
	}
	if e != api.OK {
		return told{e: e}
	}
	now, ok := p.trim(v, at, n)
	return p.changed(now, ok, 16+3*v.extents())
}

func (p *play) written(v volume, ok bool, at int, l []int, broken bool) told {
	e := writable(v, ok)
	switch {
	case e != api.OK:
	case broken:
		e = api.ErrArg
	case !within(v, at, len(l)):
		e = api.ErrRange
	}
	if e != api.OK {
		return told{e: e}
	}
	room := 0
	if len(l) > 0 {
		room = 8 * ((at+len(l)-1)/4 - at/4 + 1)
	}
	now, ok := p.write(v, at, l)
	return p.changed(now, ok, room)
}

// one: some call: what it answers, and what is there then.
func (p *play) one() {
	what, run, want := p.call()
	was, free := p.state(), p.h.Free()
	id, e := run()
	p.seen[what]++
	p.seen[[]string{"done", "", "", "", "arg", "none", "range", "only", "space", "clash", "", "", "cut", "full"}[e]]++
	switch {
	case e == api.ErrCut && p.d.Dead() && (want.e == api.OK || want.e == api.ErrClash):
	case e == api.ErrSpace && want.room > 0 && free <= 2*len(p.want.volumes)+want.room:
	case e != want.e || id != want.id:
		p.t.Fatalf("%s: %d, %d, not %d, %d", what, id, e, want.id, want.e)
	}
	if e != api.OK {
		if id != 0 {
			p.t.Fatalf("%s: %d, %d", what, id, e)
		}
		p.is(what, was)
	} else {
		p.want = want.then
		if n := p.h.Free(); n < free && n < 2*len(p.want.volumes) {
			p.t.Fatalf("%s leaves %d sectors free with %d volumes", what, n, len(p.want.volumes))
		}
	}
	p.same()
}

// try: calls within a Try, which may be undone.
func (p *play) try(deep int) {
	was, end := p.want, api.OK
	if e := p.h.Try(func() {
		for n := p.next(5); n > 0; n-- {
			if deep < 3 && p.next(4) == 0 {
				p.try(deep + 1)
			} else {
				p.one()
			}
		}
		if p.next(2) == 0 {
			end = api.ErrBase
			pack.Fail(end)
		}
	}); e != end {
		p.t.Fatalf("Try: %d, not %d", e, end)
	}
	if end != api.OK {
		p.want = was
		p.seen["undone"]++
	}
	p.same()
}

// outside: what else may happen.
func (p *play) outside() {
	switch p.next(8) {
	case 0, 1, 2:
		p.h.Settle()
	case 3:
		p.want.epoch = uint32(p.next(1000))
		p.c.SetEpoch(p.want.epoch)
	case 4:
		if !p.d.Dead() {
			p.d.Arm(p.next(30))
		}
	case 5, 6:
		if p.d.Dead() || p.next(2) == 0 {
			p.whole()
		}
	case 7:
		p.whole()
		p.box = p.again()
		p.c.SetEpoch(p.want.epoch)
	}
	p.same()
}

// same: all is as the model is.
func (p *play) same() {
	p.t.Helper()
	l := p.c.Entries()
	if len(l) != len(p.want.volumes) || p.c.Next() != p.want.next {
		p.t.Fatalf("%+v are there, Next is %d", l, p.c.Next())
	}
	for _, x := range l {
		v := p.want.volumes[x.ID]
		if (x.Root == 0) != (strings.Trim(p.text(v.sectors), "\x00") == "") {
			p.t.Fatalf("%+v: another root", x)
		}
		if x.Root = 0; x != v.entry {
			p.t.Fatalf("%+v, not %+v", x, v.entry)
		}
	}
	if n := len(p.want.kept(volume{})); p.c.Maps.Extents.Count() != n {
		p.t.Fatalf("%d extents are kept, not %d", p.c.Maps.Extents.Count(), n)
	}
	if n := p.h.Free() + p.h.Late() + p.h.Held(); n != p.d.Len()-p.from {
		p.t.Fatalf("%d sectors are free, late or held", n)
	}
	if !p.d.Dead() {
		p.reached()
		p.read()
	}
	if p.t.Failed() {
		p.t.FailNow()
	}
}

// read: each volume's sectors, or some of them, and its digest.
func (p *play) read() {
	for id, v := range p.want.volumes {
		at, n := 0, len(v.sectors)
		if p.next(3) > 0 {
			at = p.next(n + 1)
			n = min(p.next(n+1-at), 9)
		}
		if s, e := p.c.Read(id, at, n); e != api.OK || s != p.text(v.sectors[at:at+n]) {
			p.t.Fatalf("Read(%d, %d, %d): %s, %d, not %v", id, at, n, short(s), e, v.sectors[at:at+n])
		}
		if p.next(9) == 0 {
			if sum, e := p.c.Sum(id); e != api.OK || sum != digest(p.text(v.sectors), 2, 0) {
				p.t.Fatalf("Sum(%d): %s, %d", id, sum.Hex(), e)
			}
		}
	}
}

// P16.1 to P16.4: each call, behind any calls, within Tries and without, with much room and with little, with
// addresses of few bits and of many, with cuts of the power, and in volumes that adopt what others had.
func TestModel(t *testing.T) {
	seen := map[string]int{}
	for _, c := range []struct{ n, from, bits, calls int }{{20, 2, 256, 150}, {40, 1, 3, 250}, {80, 2, 5, 250}, {100, 7, 256, 250}, {200, 2, 8, 200}, {400, 0, 256, 150}, {1000, 2, 256, 150}} {
		for seed := range uint64(10) {
			p := newPlay(t, seed, c.n, c.from, c.bits, seen)
			for range c.calls {
				switch p.next(6) {
				case 0:
					p.outside()
				case 1:
					p.try(0)
				default:
					p.one()
				}
			}
			p.whole()
			for id := range p.want.volumes {
				p.works(p.c.Delete(id))
			}
			if p.h.Held() != 0 || p.c.Maps.Extents.Count() != 0 {
				t.Fatalf("%v are held", p.h.All())
			}
		}
	}
	for what, n := range map[string]int{"Write": 5000, "Trim": 1000, "done": 5000, "arg": 100, "none": 100, "range": 100, "only": 100, "space": 500, "clash": 200, "cut": 100, "full": 30, "undone": 200} {
		if seen[what] < n {
			t.Errorf("%s: %d times alone", what, seen[what])
		}
	}
}

// P1: a Core whose heap has no sectors at all, and one of each few.
func TestSmall(t *testing.T) {
	for n := range 12 {
		b := newBox(t, n, min(n, 2), 256)
		free := b.h.Free()
		for i := range 4 {
			id, e := b.c.Create(3)
			if want := free >= 2*(i+1); want != (e == api.OK) || want != (id == uint32(i+1)) || !want && e != api.ErrSpace {
				t.Errorf("%d sectors: Create: %d, %d", n, id, e)
			}
		}
		if e := b.c.Write(1, 0, some(noise(1), 128)); free < 2 && e != api.ErrNone || free >= 2 && e != api.ErrSpace {
			t.Errorf("%d sectors: Write: %d", n, e)
		}
	}
}
