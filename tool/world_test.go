package tool_test

import (
	"crypto/sha256"
	"encoding/hex"
	"maps"
	"slices"
	"strconv"
	"strings"

	"stereobate/script"
)

// volume: what it has, word by word; "" are noughts. No volume's words are ever changed: another list takes their place.
type volume struct {
	parent int
	only   bool
	words  []string
}

// world is the volumes that there should be.
type world struct {
	next    int
	volumes map[int]volume
}

func (w world) with(id int, v volume) world {
	m := maps.Clone(w.volumes)
	m[id] = v
	return world{w.next, m}
}

func (w world) without(id int) world {
	m := maps.Clone(w.volumes)
	delete(m, id)
	return world{w.next, m}
}

// made: one more.
func (w world) made(v volume) world {
	x := w.with(w.next, v)
	x.next++
	return x
}

// path: from the top down to a volume.
func (w world) path(id int) []int {
	up := w.volumes[id].parent
	if _, ok := w.volumes[up]; !ok {
		return []int{id}
	}
	return append(w.path(up), id)
}

// paths: all of them, in the order in which the volumes are listed.
func (w world) paths() [][]int {
	var l [][]int
	for id := range w.volumes {
		l = append(l, w.path(id))
	}
	slices.SortFunc(l, slices.Compare[[]int])
	return l
}

func (w world) list() []string {
	var l []string
	for _, p := range w.paths() {
		id := p[len(p)-1]
		v := w.volumes[id]
		s := strings.Repeat("  ", len(p)-1) + strconv.Itoa(id) + " " + strconv.Itoa(len(v.words))
		if v.only {
			s += " only"
		}
		l = append(l, s)
	}
	return l
}

// shipped is what a file should be: what is made of what.
type shipped struct{ from, to []string }

// model is what a tool should have: the worlds that may be there behind a crash, the last one of which is there now.
type model struct {
	worlds []world
	files  map[string]shipped
}

func newModel() *model {
	return &model{[]world{{1, map[int]volume{}}}, map[string]shipped{}}
}

func (m *model) now() world {
	return m.worlds[len(m.worlds)-1]
}

// change is a command: what is replied, and the worlds that it goes through.
type change struct {
	lines  []string
	worlds []world
}

func wrong(name string) change {
	return change{lines: []string{"error " + name}}
}

// does: what a line should do, of those of an archive with its power.
func (m *model) does(l script.Line) change {
	w := m.now()
	switch l.Verb {
	case "flush", "checkpoint":
		return change{}
	case "list":
		return change{lines: w.list()}
	case "create":
		if l.N[0] < 1 || l.N[0] > 2048 {
			return wrong("arg")
		}
		return m.makes(volume{words: make([]string, l.N[0])})
	case "write":
		if l.N[2] < 0 || l.N[2] > 64 {
			return wrong("arg")
		}
	case "read":
		if l.N[2] > 64 {
			return wrong("arg")
		}
	case "changed", "export":
		return m.compares(l)
	case "import":
		if _, ok := m.files[l.Word]; !ok {
			return wrong("none")
		}
	}
	v, ok := w.volumes[l.N[0]]
	if !ok {
		return wrong("none")
	}
	return m.of(l, v)
}

// makes: a volume is made, if there aren't too many.
func (m *model) makes(v volume) change {
	w := m.now()
	if len(w.volumes) == 16 {
		return wrong("full")
	}
	return change{[]string{strconv.Itoa(w.next)}, []world{w.made(v)}}
}

// of: what a line should do, of those of a volume that is there.
func (m *model) of(l script.Line, v volume) change {
	w, id := m.now(), l.N[0]
	switch l.Verb {
	case "snapshot":
		return m.makes(volume{id, true, v.words})
	case "clone":
		return m.makes(volume{id, false, v.words})
	case "delete":
		return change{worlds: []world{w.without(id)}}
	case "prune":
		return m.prunes(id)
	case "sum":
		return change{lines: []string{digest(v.words)}}
	case "read":
		return reads(l, v)
	}
	if v.only {
		return wrong("only")
	}
	next := slices.Clone(v.words)
	switch l.Verb {
	case "resize":
		if l.N[1] < 1 || l.N[1] > 2048 {
			return wrong("arg")
		}
		next = append(next, make([]string, 2048)...)[:l.N[1]]
	case "write", "trim":
		if !inside(l, v) {
			return wrong("range")
		}
		for i := range l.N[2] {
			next[l.N[1]+i] = l.Word
		}
	case "import":
		f := m.files[l.Word]
		if len(f.to) != len(v.words) {
			return wrong("size")
		}
		if !slices.Equal(f.from, v.words) {
			return wrong("base")
		}
		next = f.to
	}
	return change{worlds: []world{w.with(id, volume{v.parent, false, next})}}
}

// inside: has the volume the sectors that a line tells?
func inside(l script.Line, v volume) bool {
	return l.N[1] >= 0 && l.N[2] >= 0 && l.N[1]+l.N[2] <= len(v.words)
}

func reads(l script.Line, v volume) change {
	if !inside(l, v) {
		return wrong("range")
	}
	var c change
	for i, word := range v.words[l.N[1] : l.N[1]+l.N[2]] {
		if word != "" {
			c.lines = append(c.lines, strconv.Itoa(l.N[1]+i)+" "+word)
		}
	}
	return c
}

// prunes: one world for each volume that goes.
func (m *model) prunes(id int) change {
	var c change
	w := m.now()
	for _, p := range slices.Backward(w.paths()) {
		if slices.Contains(p, id) {
			w = w.without(p[len(p)-1])
			c.worlds = append(c.worlds, w)
		}
	}
	c.lines = []string{strconv.Itoa(len(c.worlds))}
	return c
}

// compares: changed and export.
func (m *model) compares(l script.Line) change {
	if _, ok := m.files[l.Word]; l.Verb == "export" && !ok && len(m.files) == 16 {
		return wrong("full")
	}
	x, there := m.now().volumes[l.N[0]]
	y, ok := m.now().volumes[l.N[1]]
	if l.Verb == "export" && l.N[0] == 0 {
		x, there = volume{words: make([]string, len(y.words))}, true
	}
	switch {
	case !there || !ok:
		return wrong("none")
	case len(x.words) != len(y.words):
		return wrong("size")
	case l.Verb == "changed":
		return change{lines: ranges(x.words, y.words)}
	}
	m.files[l.Word] = shipped{x.words, y.words}
	n := 77
	for _, at := range differ(x.words, y.words) {
		n += 3
		if strings.Join(extent(y.words, at), "") != "" {
			n += 256
		}
	}
	return change{lines: []string{strconv.Itoa(n)}}
}

// extent: the words of one.
func extent(words []string, at int) []string {
	return words[min(4*at, len(words)):min(4*at+4, len(words))]
}

// differ: which extents have other words.
func differ(x, y []string) []int {
	var l []int
	for at := range 512 {
		if !slices.Equal(extent(x, at), extent(y, at)) {
			l = append(l, at)
		}
	}
	return l
}

// ranges: a line for each row of sectors whose extents have other words.
func ranges(x, y []string) []string {
	told := make([]bool, len(y)+1)
	for _, at := range differ(x, y) {
		for i := 4 * at; i < min(4*at+4, len(y)); i++ {
			told[i] = true
		}
	}
	var l []string
	from := 0
	for i, is := range told {
		if is && (i == 0 || !told[i-1]) {
			from = i
		}
		if !is && i > 0 && told[i-1] {
			l = append(l, strconv.Itoa(from)+" "+strconv.Itoa(i-from))
		}
	}
	return l
}

// digest: of words (layers 12 and 13), level by level.
func digest(words []string) string {
	none := strings.Repeat("\x00", 32)
	var sums []string
	for at := range 512 {
		s := ""
		for _, w := range extent(words, at) {
			s += sector(w)
		}
		sum := none
		if strings.Trim(s, "\x00") != "" {
			h := sha256.Sum256([]byte(s + strings.Repeat("\x00", 256-len(s))))
			sum = string(h[:])
		}
		sums = append(sums, sum)
	}
	for level := range 3 {
		var above []string
		for kids := range slices.Chunk(sums, 8) {
			s, sum := strings.Join(kids, ""), none
			if s != strings.Repeat(none, 8) {
				h := sha256.Sum256([]byte("N" + string(rune(level)) + s))
				sum = string(h[:])
			}
			above = append(above, sum)
		}
		sums = above
	}
	return hex.EncodeToString([]byte(sums[0]))
}
