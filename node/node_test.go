package node_test

import (
	"crypto/sha256"
	"encoding/binary"
	"hash/crc32"
	"math"
	"strings"
	"testing"

	"stereobate/api"
	"stereobate/node"
	"stereobate/pack"
	"stereobate/sha"
)

// noise answers numbers below n, the same ones each time.
func noise(seed uint64) func(n int) int {
	return func(n int) int {
		seed = seed*6364136223846793005 + 1442695040888963407
		return int((seed >> 33) % uint64(n))
	}
}

// some: so many bytes of noise.
func some(next func(int) int, n int) string {
	b := make([]byte, n)
	for i := range b {
		b[i] = byte(next(256))
	}
	return string(b)
}

// sumOf: a sum of any bytes.
func sumOf(s string) sha.Sum {
	var x sha.Sum
	copy(x[:], s)
	return x
}

// sealed: bytes and their sum (layer 2), built otherwise.
func sealed(body string) string {
	c := crc32.Checksum([]byte(body), crc32.MakeTable(crc32.Castagnoli))
	return string(binary.BigEndian.AppendUint32([]byte(body), c))
}

// laid: a node's 60 bytes ahead of its sum by the document's words, built otherwise: each at its place.
func laid(n node.Node) string {
	b := make([]byte, 60)
	b[0], b[1] = 'N', byte(n.Level)
	for i, kid := range n.Kids {
		binary.BigEndian.PutUint16(b[2+2*i:], uint16(kid))
	}
	copy(b[18:50], n.Sum[:])
	return string(b)
}

// parse: what Parse answers within a Guard, and how it failed.
func parse(s string, level int) (node.Node, api.Errno) {
	var n node.Node
	e := pack.Guard(func() { n = node.Parse(s, level) })
	return n, e
}

// refused: Parse fails so, and answers nothing.
func refused(t *testing.T, what, s string, level int, want api.Errno) {
	t.Helper()
	if n, e := parse(s, level); e != want || n != (node.Node{}) {
		t.Errorf("%s: %+v, %d, not %d", what, n, e, want)
	}
}

// same: a node's bytes, and the node out of them.
func same(t *testing.T, n node.Node) {
	t.Helper()
	s := n.Bytes()
	if s != sealed(laid(n)) {
		t.Fatalf("Bytes of %+v: % x", n, s)
	}
	if got, e := parse(s, n.Level); e != api.OK || got != n {
		t.Fatalf("Parse of the bytes of %+v: %+v, %d", n, got, e)
	}
}

// P12.1: the document's example.
func TestExample(t *testing.T) {
	if kid, rest := node.Slot(1, 19); kid != 2 || rest != 3 {
		t.Errorf("Slot(1, 19): %d, %d", kid, rest)
	}
}

// P12.1, P12.2: nodes of each level, with kids at each end of what they may be, there and back.
func TestThereAndBack(t *testing.T) {
	next := noise(1)
	for level := range 256 {
		same(t, node.Node{Level: level})
		same(t, node.Node{Level: level, Sum: sumOf(strings.Repeat("\xff", 32))})
		for i := range 8 {
			for _, kid := range []int{1, 255, 256, 4095, 32768, 65535} {
				n := node.Node{Level: level, Sum: sumOf(some(next, 32))}
				n.Kids[i] = kid
				same(t, n)
			}
		}
		n := node.Node{Level: level, Sum: sumOf(some(next, 32))}
		for i := range n.Kids {
			n.Kids[i] = next(65536)
		}
		same(t, n)
	}
}

// P12.2: bytes that Parse takes are those of the node.
func TestBackAndThere(t *testing.T) {
	next := noise(2)
	for range 500 {
		level := next(3)
		s := sealed("N" + string([]byte{byte(level)}) + some(next, 48) + strings.Repeat("\x00", 10))
		if n, e := parse(s, level); e != api.OK || n.Bytes() != s {
			t.Fatalf("Parse of % x: %+v, %d", s, n, e)
		}
	}
}

// P12.1: what is too short, what was spoilt, what has more behind it.
func TestParseSealed(t *testing.T) {
	next := noise(3)
	s := node.Node{Level: 1, Kids: [8]int{1, 2, 3, 4, 5, 6, 7, 8}, Sum: sha.Of("x")}.Bytes()
	for n := range 64 {
		refused(t, "too short", s[:n], 1, api.ErrEnd)
	}
	for _, more := range []string{"\x00", "x", s} {
		refused(t, "longer", s+more, 1, api.ErrForm)
	}
	for at := range 64 {
		for b := 1; b < 256; b++ {
			bad := []byte(s)
			bad[at] ^= byte(b)
			refused(t, "a byte is spoilt", string(bad), 1, api.ErrSum)
		}
	}
	for range 500 {
		refused(t, "noise", some(next, 64), 0, api.ErrSum)
	}
	refused(t, "noughts", strings.Repeat("\x00", 64), 0, api.ErrSum)
}

// P12.1: another first byte than "N".
func TestParseMark(t *testing.T) {
	body := laid(node.Node{Level: 2, Kids: [8]int{9}, Sum: sha.Of("y")})
	for b := range 256 {
		if b != 'N' {
			refused(t, "another mark", sealed(string([]byte{byte(b)})+body[1:]), 2, api.ErrForm)
		}
	}
}

// P12.1: each level but its own is refused, those that no byte can say among them.
func TestParseLevel(t *testing.T) {
	for _, level := range []int{0, 1, 2, 3, 255} {
		s := node.Node{Level: level, Kids: [8]int{7: 5}}.Bytes()
		for asked := -300; asked < 600; asked++ {
			if asked != level {
				refused(t, "another level", s, asked, api.ErrForm)
			}
		}
		for _, asked := range []int{math.MinInt, math.MaxInt, level + 1<<8, level + 1<<32, level - 1<<32, level - 256} {
			refused(t, "a level far off", s, asked, api.ErrForm)
		}
		if _, e := parse(s, level); e != api.OK {
			t.Errorf("its own level %d: %d", level, e)
		}
	}
}

// P12.1: behind the Sum stand bytes 0 alone.
func TestParseBehind(t *testing.T) {
	body := laid(node.Node{Level: 1, Kids: [8]int{9}, Sum: sha.Of("y")})
	for at := 50; at < 60; at++ {
		for b := 1; b < 256; b++ {
			bad := []byte(body)
			bad[at] = byte(b)
			refused(t, "a byte behind the Sum", sealed(string(bad)), 1, api.ErrForm)
		}
	}
}

// K2: of several errors the first one.
func TestParseOrder(t *testing.T) {
	body := laid(node.Node{Level: 1})
	s := sealed("M" + body[1:])
	refused(t, "too short, another mark", s[:63], 1, api.ErrEnd)
	refused(t, "too short, another sum", "x"+s[1:63], 1, api.ErrEnd)
	refused(t, "another sum, longer, another mark", "x"+s[1:]+"z", 1, api.ErrSum)
	refused(t, "another sum, another level", "N\x02"+sealed(body)[2:], 1, api.ErrSum)
}

// P12.1: a node is empty just if it has no kid, whatever else it has.
func TestEmpty(t *testing.T) {
	for _, n := range []node.Node{{}, {Level: 2}, {Sum: sha.Of("x")}, {Level: 1, Sum: sha.Of("")}} {
		if !n.Empty() {
			t.Errorf("%+v isn't empty", n)
		}
		for i := range 8 {
			for _, kid := range []int{1, 65535, -1} {
				m := n
				m.Kids[i] = kid
				if m.Empty() {
					t.Errorf("%+v is empty", m)
				}
			}
		}
	}
}

// digest: by the document's words, of the library's sum.
func digest(level int, sums [8]sha.Sum) sha.Sum {
	text := []byte{'N', byte(level)}
	for _, s := range sums {
		text = append(text, s[:]...)
	}
	return sha.Sum(sha256.Sum256(text))
}

// P12.1: the digest, with each kid alone, with all, of each level's lowest byte.
func TestDigest(t *testing.T) {
	next := noise(4)
	levels := []int{0, 1, 2, 3, 255, 256, 257, 258, -1, -256, math.MaxInt, math.MinInt}
	for _, level := range levels {
		if d := node.Digest(level, [8]sha.Sum{}); d != (sha.Sum{}) {
			t.Errorf("Digest of level %d without kids: %s", level, d.Hex())
		}
		for i := range 8 {
			for by := range 32 {
				var sums [8]sha.Sum
				sums[i][by] = byte(1 + next(255))
				if d := node.Digest(level, sums); d != digest(level, sums) {
					t.Fatalf("Digest of level %d, kid %d: %s", level, i, d.Hex())
				}
			}
		}
		for range 20 {
			var sums [8]sha.Sum
			for i := range sums {
				if next(3) > 0 {
					sums[i] = sumOf(some(next, 32))
				}
			}
			if sums == ([8]sha.Sum{}) {
				continue
			}
			if d := node.Digest(level, sums); d != digest(level, sums) {
				t.Fatalf("Digest of level %d: %s", level, d.Hex())
			}
		}
	}
}

// P12.1: how many extents lie below a node, of each level, and of those that aren't there.
func TestSpan(t *testing.T) {
	for level, want := range map[int]int{0: 8, 1: 64, 2: 512, 3: 512, 4: 512, 100: 512, math.MaxInt: 512, -1: 8, -2: 8, -100: 8, math.MinInt: 8} {
		if n := node.Span(level); n != want {
			t.Errorf("Span(%d): %d, not %d", level, n, want)
		}
	}
}

// P12.1: each extent, below a node of each level, and far behind the last one.
func TestSlot(t *testing.T) {
	for level, n := range map[int]int{math.MinInt: 1, -1: 1, 0: 1, 1: 8, 2: 64, 3: 64, math.MaxInt: 64} {
		check := func(at int) {
			t.Helper()
			kid, rest := node.Slot(level, at)
			if wantKid, wantRest := (at/n)%8, at%n; kid != wantKid || rest != wantRest {
				t.Errorf("Slot(%d, %d): %d, %d, not %d, %d", level, at, kid, rest, wantKid, wantRest)
			}
		}
		for at := range 1200 {
			check(at)
		}
		for back := range 200 {
			check(math.MaxInt - back)
		}
	}
}

// P12.1: from the top down the slots are the digits of an extent's place.
func TestSlotDown(t *testing.T) {
	for at := range 512 {
		place, rest := 0, at
		for level := 2; level >= 0; level-- {
			var kid int
			kid, rest = node.Slot(level, rest)
			place = place*8 + kid
		}
		if place != at || rest != 0 {
			t.Errorf("%d: %d, %d left over", at, place, rest)
		}
	}
}
