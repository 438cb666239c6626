package tool_test

import (
	"slices"
	"strconv"
	"strings"
	"testing"

	"stereobate/api"
	"stereobate/script"
	"stereobate/scrub"
	"stereobate/space"
)

// play is a tool and what it should have, by lines that chance tells.
type play struct {
	*box
	*model
	next          func(n int) int
	mounted, dead bool // dead: the power was cut within a call of what is mounted
	armed         bool
	cuts, lost    int // how often the power was cut within a command, how often something was lost
	said          map[string]int
}

func newPlay(t *testing.T, seed uint64) *play {
	return &play{box: newBox(t, 3500, 256), model: newModel(), next: noise(seed), mounted: true, said: map[string]int{}}
}

// pick: a volume's number, mostly of one that is there.
func (p *play) pick() int {
	l := []int{0, -1, p.now().next, greatest}
	if p.next(12) > 0 && len(p.now().volumes) > 0 {
		l = nil
		for _, x := range p.now().paths() {
			l = append(l, x[len(x)-1])
		}
	}
	return l[p.next(len(l))]
}

// size: of a volume, mostly a small one.
func (p *play) size() int {
	return []int{1, 4, 5, 20, 20, 20, 33, 64, 70, 0, -3, 2049}[p.next(9+p.next(4))]
}

// place: where a line begins.
func (p *play) place() int {
	return []int{0, 1, 3, 4, 5, 8, 13, 19, 20, 40, 69, -1, greatest}[p.next(11+p.next(3))]
}

// many: sectors.
func (p *play) many() int {
	return []int{1, 1, 2, 3, 4, 5, 9, 16, 30, 0, 64, 65, -1}[p.next(10+p.next(4))]
}

func (p *play) word() string {
	return []string{"a", "b", "c", "0", "zz", "0123456789abcdef"}[p.next(6)]
}

// line: what is done next.
func (p *play) line() script.Line {
	verbs := strings.Fields("create create snapshot clone clone delete prune resize trim trim write write write write write read read read changed changed sum export export import import import flush checkpoint scrub space list list")
	l := script.Line{Verb: verbs[p.next(len(verbs))]}
	switch l.Verb {
	case "create":
		l.N = []int{p.size()}
	case "snapshot", "clone", "delete", "prune", "sum":
		l.N = []int{p.pick()}
	case "resize":
		l.N = []int{p.pick(), p.size()}
	case "trim", "read":
		l.N = []int{p.pick(), p.place(), p.many()}
	case "write":
		l.N, l.Word = []int{p.pick(), p.place(), p.many()}, p.word()
	case "changed":
		l.N = []int{p.pick(), p.pick()}
	case "export":
		l.N, l.Word = []int{p.pick() * p.next(2), p.pick()}, "f"+strconv.Itoa(p.next(18))
	case "import":
		l.N, l.Word = []int{p.pick()}, "f"+strconv.Itoa(p.next(18))
	}
	return l
}

// do: a line of an archive with its power; what is replied is what should be.
func (p *play) do(l script.Line) {
	p.t.Helper()
	text := l.Text()
	if l.Verb == "space" || l.Verb == "scrub" {
		p.asks(text, p.told(l.Verb)...)
		return
	}
	want := p.does(l)
	out := p.x.Reply(text)
	if p.armed && slices.Equal(out, []string{"error cut"}) && (want.lines == nil || want.worlds != nil) {
		p.dead = true
		p.cuts++
		p.worlds = append(p.worlds, want.worlds...)
		return
	}
	if !slices.Equal(out, want.lines) {
		p.t.Fatalf("%s: %q, not %q", text, out, want.lines)
	}
	p.worlds = append(p.worlds, want.worlds...)
	failed := len(out) > 0 && strings.HasPrefix(out[0], "error")
	if failed {
		p.said[out[0]]++
		return
	}
	p.said[l.Verb]++
	if l.Verb == "flush" || l.Verb == "checkpoint" || l.Verb == "import" {
		p.worlds = p.worlds[len(p.worlds)-1:]
	}
}

// told: what scrub and space should reply, by what the layers answer.
func (p *play) told(verb string) []string {
	p.t.Helper()
	if verb == "space" {
		u, e := space.Of(p.x.Archive())
		p.works(e)
		return []string{"held " + strconv.Itoa(u.Held), "late " + strconv.Itoa(u.Late), "free " + strconv.Itoa(u.Free)}
	}
	bad, n, e := scrub.Scrub(p.x.Archive())
	p.works(e)
	if len(bad) > 0 {
		p.t.Fatalf("%v are spoilt", bad)
	}
	return []string{strconv.Itoa(n)}
}

// has: is a world just what the tool has?
func (p *play) has(w world) bool {
	p.t.Helper()
	a := p.x.Archive()
	if !slices.Equal(p.x.Reply("list"), w.list()) || a.Store().Next() != uint32(w.next) {
		return false
	}
	for id, v := range w.volumes {
		var want strings.Builder
		for _, word := range v.words {
			want.WriteString(sector(word))
		}
		if s, e := a.Read(uint32(id), 0, len(v.words)); e != api.OK || s != want.String() {
			return false
		}
	}
	return true
}

// mount: of a disk with its power.
func (p *play) mount() {
	p.t.Helper()
	out := p.x.Reply("mount")
	if p.armed && slices.Equal(out, []string{"error cut"}) {
		p.cuts++
		p.nothing()
		return
	}
	if len(out) > 0 {
		p.t.Fatalf("mount: %q", out)
	}
	at := len(p.worlds) - 1
	for at >= 0 && !p.has(p.worlds[at]) {
		at--
	}
	if at < 0 || p.mounted && at < len(p.worlds)-1 {
		p.t.Fatalf("mount: %q: it isn't what was there", p.x.Reply("list"))
	}
	if at < len(p.worlds)-1 {
		p.lost++
	}
	p.worlds = p.worlds[at : at+1]
	p.mounted, p.dead = true, false
}

// nothing: is mounted.
func (p *play) nothing() {
	p.t.Helper()
	p.mounted, p.dead = false, false
	if p.x.Archive() != nil {
		p.t.Fatal("something is mounted")
	}
}

// crash: the power goes, and something is torn.
func (p *play) crash() {
	p.t.Helper()
	l := script.Line{Verb: "crash"}
	for range p.next(20) {
		l.N = append(l.N, p.next(80)-8)
	}
	p.silent(l.Text())
	p.armed = false
	p.nothing()
}

// again: without power, or with nothing mounted, all is ErrCut; then a crash, and what was is there.
func (p *play) again() {
	p.t.Helper()
	for range p.next(3) {
		l := p.line()
		if l.Verb == "list" || p.dead && (l.Verb == "write" || l.Verb == "read" || l.Verb == "export" || l.Verb == "import" || l.Verb == "prune") {
			continue // errors that are ahead of ErrCut, or none
		}
		p.refused(l.Text(), "cut")
	}
	if p.d.Dead() && p.next(3) == 0 {
		p.says("mount", "error cut")
		p.nothing()
	}
	p.crash()
	if p.next(4) == 0 {
		p.silent("arm " + strconv.Itoa(p.next(12)))
		p.armed = true
	}
	p.mount()
}

// P27.1, P3: each command replies what volumes do that have their own sectors each.
func TestModel(t *testing.T) {
	p := newPlay(t, 1)
	for range 6000 {
		p.do(p.line())
	}
	if !p.has(p.now()) {
		t.Error("something else is there")
	}
	for _, s := range []string{"create", "snapshot", "clone", "delete", "prune", "resize", "trim", "write", "read", "changed", "sum", "export", "import", "flush", "checkpoint", "list",
		"error none", "error arg", "error range", "error only", "error size", "error base", "error full"} {
		if p.said[s] < 10 {
			t.Errorf("%s: %d times", s, p.said[s])
		}
	}
}

// P27.1, P4: and wherever the power is cut, behind mount some first commands are done, all that were flushed at least.
func TestCuts(t *testing.T) {
	cuts, lost := 0, 0
	for seed := range uint64(12) {
		p := newPlay(t, 100+seed)
		for range 800 {
			switch n := p.next(40); {
			case !p.mounted || p.dead:
				p.again()
			case n == 0:
				p.crash()
			case n == 1:
				p.mount()
			case n < 4:
				p.silent("arm " + strconv.Itoa(p.next(40)))
				p.armed = true
			default:
				p.do(p.line())
			}
		}
		cuts, lost = cuts+p.cuts, lost+p.lost
	}
	if cuts < 100 || lost < 50 {
		t.Errorf("%d cuts, %d losses", cuts, lost)
	}
}
