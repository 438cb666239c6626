package tool

import (
	"strconv"
	"strings"

	"stereobate/api"
	"stereobate/block"
	"stereobate/redo"
	"stereobate/script"
	"stereobate/scrub"
	"stereobate/ship"
	"stereobate/space"
	"stereobate/track"
	"stereobate/tree"
)

// command is what a verb stands for: lines, or an error and none.
type command func(l script.Line) ([]string, api.Errno)

// always: the commands that need nothing mounted, by their verbs.
func (t *Tool) always() map[string]command {
	return map[string]command{
		"mount": t.mount,
		"crash": t.crash,
		"arm":   t.arm,
	}
}

// mounted: the other ones.
func (t *Tool) mounted() map[string]command {
	return map[string]command{
		"create":     t.create,
		"snapshot":   t.snapshot,
		"clone":      t.clone,
		"delete":     t.delete,
		"resize":     t.resize,
		"trim":       t.trim,
		"write":      t.write,
		"read":       t.read,
		"changed":    t.changed,
		"sum":        t.sum,
		"export":     t.export,
		"import":     t.imports,
		"flush":      t.flush,
		"checkpoint": t.checkpoint,
		"scrub":      t.scrub,
		"space":      t.space,
		"list":       t.list,
		"prune":      t.prune,
	}
}

// volume: by a line's first number, its lowest 32 bits.
func volume(l script.Line) uint32 {
	return uint32(l.N[0])
}

func (t *Tool) mount(script.Line) ([]string, api.Errno) {
	a, e := block.Mount(&t.disk)
	t.archive = a
	return nil, e
}

func (t *Tool) crash(l script.Line) ([]string, api.Errno) {
	t.disk.Crash(l.N...)
	t.archive = nil
	return nil, api.OK
}

func (t *Tool) arm(l script.Line) ([]string, api.Errno) {
	t.disk.Arm(l.N[0])
	return nil, api.OK
}

func (t *Tool) create(l script.Line) ([]string, api.Errno) {
	return t.op(redo.Op{Kind: redo.Create, N: l.N[0]})
}

func (t *Tool) snapshot(l script.Line) ([]string, api.Errno) {
	return t.op(redo.Op{Kind: redo.Snapshot, ID: volume(l)})
}

func (t *Tool) clone(l script.Line) ([]string, api.Errno) {
	return t.op(redo.Op{Kind: redo.Clone, ID: volume(l)})
}

func (t *Tool) delete(l script.Line) ([]string, api.Errno) {
	return nil, t.drop(volume(l))
}

func (t *Tool) resize(l script.Line) ([]string, api.Errno) {
	return t.op(redo.Op{Kind: redo.Resize, ID: volume(l), N: l.N[1]})
}

func (t *Tool) trim(l script.Line) ([]string, api.Errno) {
	return t.op(redo.Op{Kind: redo.Trim, ID: volume(l), At: l.N[1], N: l.N[2]})
}

func (t *Tool) write(l script.Line) ([]string, api.Errno) {
	if l.N[2] < 0 || l.N[2] > MaxLook {
		return nil, api.ErrArg
	}
	sector := l.Word + strings.Repeat("\x00", api.SectorLen-len(l.Word))
	return t.op(redo.Op{Kind: redo.Write, ID: volume(l), At: l.N[1], Data: strings.Repeat(sector, l.N[2])})
}

// op: one that is done: the number of the volume that it makes.
func (t *Tool) op(o redo.Op) ([]string, api.Errno) {
	id, e := t.archive.Do(o)
	if e != api.OK || id == 0 {
		return nil, e
	}
	return []string{number(id)}, api.OK
}

// drop: a volume is deleted.
func (t *Tool) drop(id uint32) api.Errno {
	_, e := t.archive.Do(redo.Op{Kind: redo.Delete, ID: id})
	return e
}

func number(id uint32) string {
	return strconv.FormatUint(uint64(id), 10)
}

func (t *Tool) read(l script.Line) ([]string, api.Errno) {
	if l.N[2] > MaxLook {
		return nil, api.ErrArg
	}
	text, e := t.archive.Read(volume(l), l.N[1], l.N[2])
	var out []string
	for i := range len(text) / api.SectorLen {
		from := i * api.SectorLen
		if s := Show(text[from : from+api.SectorLen]); s != "" {
			out = append(out, strconv.Itoa(l.N[1]+i)+" "+s)
		}
	}
	return out, e
}

func (t *Tool) changed(l script.Line) ([]string, api.Errno) {
	ranges, e := track.Changed(t.archive, volume(l), uint32(l.N[1]))
	var out []string
	for _, r := range ranges {
		out = append(out, strconv.Itoa(r.At)+" "+strconv.Itoa(r.N))
	}
	return out, e
}

func (t *Tool) sum(l script.Line) ([]string, api.Errno) {
	s, e := t.archive.Sum(volume(l))
	if e != api.OK {
		return nil, e
	}
	return []string{s.Hex()}, api.OK
}

func (t *Tool) export(l script.Line) ([]string, api.Errno) {
	if _, ok := t.files[l.Word]; !ok && len(t.files) >= MaxFiles {
		return nil, api.ErrFull
	}
	text, e := ship.Export(t.archive, volume(l), uint32(l.N[1]))
	if e != api.OK {
		return nil, e
	}
	t.files[l.Word] = text
	return []string{strconv.Itoa(len(text))}, api.OK
}

// imports: import, which is a word of the language.
func (t *Tool) imports(l script.Line) ([]string, api.Errno) {
	text, ok := t.files[l.Word]
	if !ok {
		return nil, api.ErrNone
	}
	return nil, ship.Import(t.archive, volume(l), text)
}

func (t *Tool) flush(script.Line) ([]string, api.Errno) {
	return nil, t.archive.Flush()
}

func (t *Tool) checkpoint(script.Line) ([]string, api.Errno) {
	return nil, t.archive.Checkpoint()
}

func (t *Tool) scrub(script.Line) ([]string, api.Errno) {
	bad, n, e := scrub.Scrub(t.archive)
	if e != api.OK {
		return nil, e
	}
	out := []string{strconv.Itoa(n)}
	for _, at := range bad {
		out = append(out, "bad "+strconv.Itoa(at))
	}
	return out, api.OK
}

func (t *Tool) space(script.Line) ([]string, api.Errno) {
	u, e := space.Of(t.archive)
	if e != api.OK {
		return nil, e
	}
	return []string{"held " + strconv.Itoa(u.Held), "late " + strconv.Itoa(u.Late), "free " + strconv.Itoa(u.Free)}, api.OK
}

func (t *Tool) list(script.Line) ([]string, api.Errno) {
	var out []string
	for _, x := range tree.All(t.archive) {
		v, _ := t.archive.Info(x.ID) // it is there, as the tree has it
		s := strings.Repeat("  ", x.Depth) + number(v.ID) + " " + strconv.Itoa(v.Size)
		if v.Only {
			s += " only"
		}
		out = append(out, s)
	}
	return out, api.OK
}

func (t *Tool) prune(l script.Line) ([]string, api.Errno) {
	n, e := tree.Prune(t.archive, volume(l), t.drop)
	if e != api.OK {
		return nil, e
	}
	return []string{strconv.Itoa(n)}, api.OK
}
