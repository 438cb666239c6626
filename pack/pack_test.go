package pack_test

import (
	"math"
	"strconv"
	"strings"
	"testing"

	"stereobate/api"
	"stereobate/pack"
)

// noise answers numbers, the same ones each time.
func noise() func() uint64 {
	x := uint64(1)
	return func() uint64 {
		x = x*6364136223846793005 + 1442695040888963407
		return x>>32 ^ x<<29
	}
}

// wide: how many bytes a number takes, by the document's words.
func wide(size int) int {
	if size < 1 {
		return 1
	}
	if size > 8 {
		return 8
	}
	return size
}

// number: its bytes, by the document's words: of its 64 bits the lowest, the highest byte first.
func number(n uint64, size int) string {
	s := ""
	for range wide(size) {
		s = string([]byte{byte(n % 256)}) + s
		n /= 256
	}
	return s
}

var sizes = []int{math.MinInt, -8, -1, 0, 1, 2, 3, 4, 5, 6, 7, 8, 9, 10, 64, math.MaxInt}

var numbers = []uint64{0, 1, 44, 127, 128, 255, 256, 300, 65535, 65536, 1<<24 - 1, 1 << 24, 1<<32 - 1, 1 << 32, 1<<40 + 7, 1<<56 - 1,
	1 << 56, 1<<62 - 1, 1 << 62, 1<<62 + 1, 1<<63 - 1, 1 << 63, 0x0102030405060708, 0xfffefdfcfbfaf9f8, math.MaxUint64}

// P3.1: what comes to its end is OK; what fails answers its error, whichever number that is, and goes no further.
func TestGuard(t *testing.T) {
	ran := 0
	if e := pack.Guard(func() { ran++ }); e != api.OK || ran != 1 {
		t.Errorf("Guard: %d, ran %d times", e, ran)
	}
	for _, want := range []api.Errno{api.OK, api.ErrForm, api.ErrEnd, api.ErrBig, api.ErrArg, api.ErrNone, api.ErrRange, api.ErrOnly, api.ErrSpace,
		api.ErrClash, api.ErrBase, api.ErrSum, api.ErrCut, api.ErrFull, api.ErrSize, api.ErrKind, 16, -1, math.MaxInt, math.MinInt} {
		before, behind := 0, 0
		e := pack.Guard(func() {
			before++
			pack.Fail(want)
			behind++
		})
		if e != want || before != 1 || behind != 0 {
			t.Errorf("Fail %d: %d, ran %d, %d", want, e, before, behind)
		}
	}
	if e := pack.Guard(func() {}); e != api.OK {
		t.Errorf("Guard behind others that failed: %d", e)
	}
}

// fall calls itself so often, and fails then.
func fall(deep int, done *[]int, e api.Errno) int {
	*done = append(*done, deep)
	if deep == 0 {
		pack.Fail(e)
	}
	n := fall(deep-1, done, e)
	*done = append(*done, -1)
	return n
}

// P3.1: whatever called Fail goes no further either; what it deferred runs.
func TestFailThroughCalls(t *testing.T) {
	for _, deep := range []int{0, 1, 2, 1000} {
		var done []int
		if e := pack.Guard(func() { fall(deep, &done, api.ErrKind) }); e != api.ErrKind || len(done) != deep+1 || done[deep] != 0 {
			t.Errorf("%d deep: %d, %d steps", deep, e, len(done))
		}
	}
	var order []string
	e := pack.Guard(func() {
		defer func() { order = append(order, "last") }()
		func() {
			defer func() { order = append(order, "first") }()
			pack.Fail(api.ErrSize)
		}()
		order = append(order, "never")
	})
	if e != api.ErrSize || strings.Join(order, " ") != "first last" {
		t.Errorf("deferred: %d, %v", e, order)
	}
}

// P3.3: the innermost Guard answers, the others go on; what ran ahead stays done.
func TestGuardsWithinGuards(t *testing.T) {
	var steps []string
	step := func(s string) { steps = append(steps, s) }
	var inner, middle api.Errno
	outer := pack.Guard(func() {
		step("a")
		middle = pack.Guard(func() {
			step("b")
			inner = pack.Guard(func() {
				step("c")
				pack.Fail(api.ErrNone)
				step("never")
			})
			step("d")
			pack.Fail(api.ErrOnly)
			step("never")
		})
		step("e")
	})
	if inner != api.ErrNone || middle != api.ErrOnly || outer != api.OK || strings.Join(steps, "") != "abcde" {
		t.Errorf("%d, %d, %d, %v", inner, middle, outer, steps)
	}
}

// P3.3: many Guards, of which some fail behind the one within.
func TestManyGuards(t *testing.T) {
	const deep = 200
	var answers [deep]api.Errno
	var nest func(k int)
	nest = func(k int) {
		if k == deep {
			return
		}
		answers[k] = pack.Guard(func() {
			nest(k + 1)
			if k%3 != 0 {
				pack.Fail(api.Errno(k))
			}
		})
	}
	nest(0)
	for k, e := range answers {
		if want := api.Errno(k); k%3 == 0 && e != api.OK || k%3 != 0 && e != want {
			t.Errorf("Guard %d: %d", k, e)
		}
	}
}

// P3.3: an error goes past no Guard, and past what isn't one.
func TestInnermostGuard(t *testing.T) {
	for at := range 6 {
		var answers [6]api.Errno
		var nest func(k int)
		nest = func(k int) {
			answers[k] = pack.Guard(func() {
				if k == at {
					pack.Fail(api.ErrBase)
				}
				if k < 5 {
					nest(k + 1)
				}
			})
		}
		nest(0)
		for k, e := range answers {
			if (e == api.ErrBase) != (k == at) || k != at && e != api.OK {
				t.Errorf("failed in Guard %d: Guard %d answers %d", at, k, e)
			}
		}
	}
}

// P3.3: Guards one behind the other, and in what was deferred by one that fails.
func TestGuardsBesideEachOther(t *testing.T) {
	var first, second, late api.Errno
	outer := pack.Guard(func() {
		defer func() { late = pack.Guard(func() { pack.Fail(api.ErrSum) }) }()
		first = pack.Guard(func() { pack.Fail(api.ErrCut) })
		second = pack.Guard(func() { pack.Fail(api.ErrFull) })
		pack.Fail(api.ErrClash)
	})
	if first != api.ErrCut || second != api.ErrFull || late != api.ErrSum || outer != api.ErrClash {
		t.Errorf("%d, %d, %d, %d", first, second, late, outer)
	}
}

// P3.3: what was put and taken ahead of the failing stays so.
func TestStaysDone(t *testing.T) {
	var o pack.Out
	i := pack.Read("abcdef")
	e := pack.Guard(func() {
		o.Text(i.Text(2))
		o.Num(i.Num(1), 1)
		o.Text(i.Text(4))
	})
	if e != api.ErrEnd || o.Bytes() != "abc" || i.Left() != 3 {
		t.Errorf("%d, %q, %d left", e, o.Bytes(), i.Left())
	}
}

// P3.1: Num, of all kinds of sizes, by bytes.
func TestOutNum(t *testing.T) {
	for _, size := range sizes {
		for _, n := range numbers {
			var o pack.Out
			if p := o.Num(n, size); p != &o || o.Bytes() != number(n, size) {
				t.Errorf("Num %x, %d: %x, not %x", n, size, o.Bytes(), number(n, size))
			}
		}
	}
	for size, want := range map[int]string{2: "\x01\x2c", 1: "\x2c", 4: "\x00\x00\x01\x2c"} {
		var o pack.Out
		if s := o.Num(300, size).Bytes(); s != want {
			t.Errorf("Num 300, %d: %x", size, s)
		}
	}
}

// P3.1: Text, any bytes, one behind the other; a zero Out has none.
func TestOutText(t *testing.T) {
	var o pack.Out
	if o.Bytes() != "" {
		t.Errorf("of a zero one: %q", o.Bytes())
	}
	all := ""
	for b := range 256 {
		s := strings.Repeat(string([]byte{byte(b)}), b%5)
		all += s
		if p := o.Text(s); p != &o || o.Bytes() != all {
			t.Fatalf("Text of bytes %d: %q", b, o.Bytes())
		}
	}
	if o.Text("").Bytes() != all || o.Bytes() != all {
		t.Error("Text of nothing, or Bytes, changes it")
	}
	long := strings.Repeat("x", 1<<20)
	if s := new(pack.Out).Text(long).Text("y").Bytes(); s != long+"y" {
		t.Errorf("a long one: %d bytes", len(s))
	}
}

// P3.1: Fill, at its bounds.
func TestFill(t *testing.T) {
	for have := range 70 {
		text := strings.Repeat("x", have)
		for _, n := range []int{math.MinInt, -1, 0, 1, have - 2, have - 1, have, have + 1, have + 2, 60, 64, 1000} {
			var o pack.Out
			o.Text(text)
			var p *pack.Out
			e := pack.Guard(func() { p = o.Fill(n) })
			if have > n {
				if e != api.ErrBig || p != nil || o.Bytes() != text {
					t.Errorf("Fill %d of %d: %d, %q", n, have, e, o.Bytes())
				}
			} else if want := text + strings.Repeat("\x00", n-have); e != api.OK || p != &o || o.Bytes() != want {
				t.Errorf("Fill %d of %d: %d, %q", n, have, e, o.Bytes())
			}
		}
	}
}

// P3.1: what follows a Fill stands behind the noughts, and noughts are noughts wherever bytes stood in memory.
func TestBehindFill(t *testing.T) {
	var o pack.Out
	e := pack.Guard(func() { o.Text("ab").Fill(4).Num(0x0506, 2).Fill(6).Fill(9).Text("z") })
	if e != api.OK || o.Bytes() != "ab\x00\x00\x05\x06\x00\x00\x00z" {
		t.Errorf("%d, %q", e, o.Bytes())
	}
}

// K3: what Bytes answered stays, whatever is put behind it; two Outs have nothing to do with each other.
func TestBytesStay(t *testing.T) {
	var o, p pack.Out
	var was []string
	all := ""
	for k := range 100 {
		o.Num(uint64(k), 1)
		p.Num(uint64(k+100), 1)
		all += string([]byte{byte(k)})
		was = append(was, o.Bytes())
	}
	for k, s := range was {
		if s != all[:k+1] {
			t.Errorf("Bytes behind %d numbers: %q", k+1, s)
		}
	}
	if p.Bytes()[0] != 100 || len(p.Bytes()) != 100 {
		t.Errorf("the other one: %q", p.Bytes())
	}
}

// took: a Guard of one call, and what is left then.
func took(i *pack.In, call func()) (api.Errno, int) {
	e := pack.Guard(call)
	return e, i.Left()
}

// P3.1: Text, at its bounds, with which error comes first.
func TestInText(t *testing.T) {
	text := "\x00abcdefgh\xff"
	for from := range len(text) + 1 {
		for _, n := range []int{math.MinInt, -2, -1, 0, 1, 2, len(text) - from - 1, len(text) - from, len(text) - from + 1, 100, math.MaxInt} {
			i := pack.Read(text)
			got := "none"
			pack.Guard(func() { i.Text(from) })
			have := len(text) - from
			e, left := took(i, func() { got = i.Text(n) })
			switch {
			case n < 0:
				if e != api.ErrArg || left != have || got != "none" {
					t.Errorf("Text %d of %d: %d, %q, %d left", n, have, e, got, left)
				}
			case n > have:
				if e != api.ErrEnd || left != have || got != "none" {
					t.Errorf("Text %d of %d: %d, %q, %d left", n, have, e, got, left)
				}
			default:
				if e != api.OK || left != have-n || got != text[from:from+n] {
					t.Errorf("Text %d of %d: %d, %q, %d left", n, have, e, got, left)
				}
			}
		}
	}
}

// P3.1: Num, of all kinds of sizes; ErrEnd takes nothing.
func TestInNum(t *testing.T) {
	for _, size := range sizes {
		for _, n := range numbers {
			s := number(n, size)
			i := pack.Read(s + "rest")
			got := uint64(0)
			want := n
			if w := wide(size); w < 8 {
				want = n % (1 << (8 * w))
			}
			if e, left := took(i, func() { got = i.Num(size) }); e != api.OK || got != want || left != 4 {
				t.Errorf("Num %d of %x: %d, %x, %d left", size, s, e, got, left)
			}
		}
		for have := range wide(size) {
			i := pack.Read(strings.Repeat("a", have))
			got := uint64(7)
			if e, left := took(i, func() { got = i.Num(size) }); e != api.ErrEnd || got != 7 || left != have {
				t.Errorf("Num %d of %d bytes: %d, %d, %d left", size, have, e, got, left)
			}
		}
	}
}

// P3.1: Small, at both its bounds; ErrBig has taken it, ErrEnd hasn't.
func TestSmall(t *testing.T) {
	bounds := append([]uint64{2, 254, 1<<62 + 2}, numbers...)
	for _, size := range sizes {
		for _, n := range numbers {
			if w := wide(size); w < 8 {
				n %= 1 << (8 * w)
			}
			for _, most := range append(bounds, n, n-1, n+1) {
				i := pack.Read(number(n, size) + "r")
				got := -1
				e, left := took(i, func() { got = i.Small(size, most) })
				if n > most || n > 1<<62 {
					if e != api.ErrBig || got != -1 || left != 1 {
						t.Errorf("Small %d, %x of %x: %d, %x, %d left", size, most, n, e, got, left)
					}
				} else if e != api.OK || got < 0 || uint64(got) != n || left != 1 {
					t.Errorf("Small %d, %x of %x: %d, %x, %d left", size, most, n, e, got, left)
				}
			}
		}
		for have := range wide(size) {
			i := pack.Read(strings.Repeat("\xff", have))
			got := -1
			if e, left := took(i, func() { got = i.Small(size, 0) }); e != api.ErrEnd || got != -1 || left != have {
				t.Errorf("Small %d of %d bytes: %d, %d, %d left", size, have, e, got, left)
			}
		}
	}
}

// P3.1: Zero: one byte that isn't 0, wherever and whichever, is told, and all stays.
func TestZero(t *testing.T) {
	for n := range 70 {
		i := pack.Read(strings.Repeat("\x00", n))
		if e, left := took(i, i.Zero); e != api.OK || left != 0 {
			t.Errorf("Zero of %d: %d, %d left", n, e, left)
		}
		if e, left := took(i, i.Zero); e != api.OK || left != 0 {
			t.Errorf("Zero once more: %d, %d left", e, left)
		}
		for at := range n {
			for _, x := range []byte{1, '0', 0x80, 0xff} {
				b := make([]byte, n)
				b[at] = x
				i := pack.Read(string(b))
				if e, left := took(i, i.Zero); e != api.ErrForm || left != n {
					t.Errorf("Zero of %d, with %x at %d: %d, %d left", n, x, at, e, left)
				}
				rest := ""
				pack.Guard(func() { rest = i.Text(n) })
				if rest != string(b) {
					t.Errorf("behind Zero: %q", rest)
				}
			}
		}
	}
	i := pack.Read("a\x00\x00")
	pack.Guard(func() { i.Text(1) })
	if e, left := took(i, i.Zero); e != api.OK || left != 0 {
		t.Errorf("Zero behind a Text: %d, %d left", e, left)
	}
}

// P3.1: Done: anything that is left is told, noughts too, and stays.
func TestDone(t *testing.T) {
	for _, s := range []string{"a", "\x00", "\x00\x00\x00", "abc"} {
		i := pack.Read(s)
		if e, left := took(i, i.Done); e != api.ErrForm || left != len(s) {
			t.Errorf("Done of %q: %d, %d left", s, e, left)
		}
		pack.Guard(func() { i.Text(len(s)) })
		if e, left := took(i, i.Done); e != api.OK || left != 0 {
			t.Errorf("Done behind all: %d, %d left", e, left)
		}
	}
	i := pack.Read("")
	if e, left := took(i, i.Done); e != api.OK || left != 0 {
		t.Errorf("Done of nothing: %d, %d left", e, left)
	}
}

// K3: two Ins of one text go their own ways.
func TestTwoIns(t *testing.T) {
	text := "abcd"
	i, j := pack.Read(text), pack.Read(text)
	a, b := "", ""
	pack.Guard(func() { a = i.Text(3) })
	pack.Guard(func() { b = j.Text(2) })
	if a != "abc" || b != "ab" || i.Left() != 1 || j.Left() != 2 || text != "abcd" {
		t.Errorf("%q, %q, %d, %d left", a, b, i.Left(), j.Left())
	}
}

// item is a thing that was put: a number in some bytes, or a text, or noughts up to some length.
type item struct {
	kind int
	n    uint64
	size int
	text string
}

func (x item) put(o *pack.Out) {
	switch x.kind {
	case 0:
		o.Num(x.n, x.size)
	case 1:
		o.Text(x.text)
	case 2:
		o.Fill(len(o.Bytes()) + x.size)
	}
}

// back: what was taken isn't what was put; "" else.
func (x item) back(i *pack.In) string {
	switch x.kind {
	case 0:
		want := x.n
		if w := wide(x.size); w < 8 {
			want = x.n & (1<<(8*w) - 1)
		}
		if n := i.Num(x.size); n != want {
			return strconv.FormatUint(n, 16) + ", not " + strconv.FormatUint(want, 16)
		}
	case 1:
		if s := i.Text(len(x.text)); s != x.text {
			return strconv.Quote(s) + ", not " + strconv.Quote(x.text)
		}
	case 2:
		if s := i.Text(x.size); strings.Trim(s, "\x00") != "" {
			return strconv.Quote(s) + ", not noughts"
		}
	}
	return ""
}

// P3.2: what was put is taken again, thing by thing, and nothing is left.
func TestThereAndBack(t *testing.T) {
	next := noise()
	for round := range 300 {
		var items []item
		for range next() % 40 {
			x := item{kind: int(next() % 3), n: next() >> (next() % 64), size: int(next() % 10)}
			for range next() % 20 {
				x.text += string([]byte{byte(next())})
			}
			items = append(items, x)
		}
		var o pack.Out
		e := pack.Guard(func() {
			for _, x := range items {
				x.put(&o)
			}
		})
		i := pack.Read(o.Bytes())
		if e == api.OK {
			e = pack.Guard(func() {
				for k, x := range items {
					if s := x.back(i); s != "" {
						t.Errorf("round %d, item %d: %s", round, k, s)
					}
				}
				i.Done()
			})
		}
		if e != api.OK {
			t.Errorf("round %d: %d", round, e)
		}
	}
}

// P3.2: Small takes back what was put, where it is neither above most nor above 2^62.
func TestSmallThereAndBack(t *testing.T) {
	next := noise()
	for range 5000 {
		size := 1 + int(next()%8)
		n := next() >> (64 - 8*size)
		if size == 8 {
			n >>= 2
		}
		var o pack.Out
		o.Num(n, size).Fill(64)
		i := pack.Read(o.Bytes())
		got := -1
		e := pack.Guard(func() {
			got = i.Small(size, n)
			i.Zero()
			i.Done()
		})
		if e != api.OK || uint64(got) != n {
			t.Errorf("Small %d of %x: %d, %x", size, n, e, got)
		}
	}
}
