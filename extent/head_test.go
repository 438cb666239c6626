package extent_test

import (
	"encoding/binary"
	"hash/crc32"
	"strings"
	"testing"

	"stereobate/api"
	"stereobate/extent"
	"stereobate/pack"
	"stereobate/sha"
)

// noise answers numbers below n, the same ones each time.
func noise(seed uint64) func(n int) int {
	return func(n int) int {
		seed = seed*6364136223846793005 + 1442695040888963407
		return int((seed >> 33) % uint64(n))
	}
}

// some: so many bytes of noise.
func some(next func(int) int, n int) string {
	b := make([]byte, n)
	for i := range b {
		b[i] = byte(next(256))
	}
	return string(b)
}

// sumOf: a sum of any bytes.
func sumOf(s string) sha.Sum {
	var x sha.Sum
	copy(x[:], s)
	return x
}

// noughts: so many bytes 0.
func noughts(n int) string {
	return strings.Repeat("\x00", n)
}

// check: the library's sum that layer 2's is to be.
func check(s string) uint32 {
	return crc32.Checksum([]byte(s), crc32.MakeTable(crc32.Castagnoli))
}

// sealed: bytes and their sum (layer 2).
func sealed(body string) string {
	return string(binary.BigEndian.AppendUint32([]byte(body), check(body)))
}

// laid: a head's 60 bytes ahead of its sum by the document's words, built otherwise: each at its place.
func laid(x extent.Head) string {
	b := make([]byte, 60)
	b[0] = 'E'
	for i := range 4 {
		binary.BigEndian.PutUint16(b[1+2*i:], uint16(x.At[i]))
		binary.BigEndian.PutUint32(b[9+4*i:], x.Sums[i])
	}
	copy(b[25:57], x.Sum[:])
	return string(b)
}

// parse: what Parse answers within a Guard, and how it failed.
func parse(s string) (extent.Head, api.Errno) {
	var x extent.Head
	e := pack.Guard(func() { x = extent.Parse(s) })
	return x, e
}

// refused: Parse fails so, and answers nothing.
func refused(t *testing.T, what, s string, want api.Errno) {
	t.Helper()
	if x, e := parse(s); e != want || x != (extent.Head{}) {
		t.Errorf("%s: %+v, %d, not %d", what, x, e, want)
	}
}

// same: a head's bytes, and the head out of them.
func same(t *testing.T, x extent.Head) {
	t.Helper()
	s := x.Bytes()
	if s != sealed(laid(x)) {
		t.Fatalf("Bytes of %+v: % x", x, s)
	}
	if got, e := parse(s); e != api.OK || got != x {
		t.Fatalf("Parse of the bytes of %+v: %+v, %d", x, got, e)
	}
}

// P11.1: heads with numbers at each end of what they may be, there and back.
func TestHead(t *testing.T) {
	next := noise(1)
	same(t, extent.Head{})
	same(t, extent.Head{Sum: sumOf(strings.Repeat("\xff", 32))})
	for i := range 4 {
		for _, n := range []uint32{1, 255, 256, 4095, 65535, 1 << 16, 1 << 31, 1<<32 - 1} {
			x := extent.Head{Sum: sumOf(some(next, 32))}
			x.At[i] = int(n & 65535)
			same(t, x)
			x.Sums[i] = n
			same(t, x)
		}
	}
	for range 500 {
		s := sealed("E" + some(next, 56) + noughts(3))
		x, e := parse(s)
		if e != api.OK || x.Bytes() != s {
			t.Fatalf("Parse of % x: %+v, %d", s, x, e)
		}
		same(t, x)
	}
}

// P11.1: what is too short, what was spoilt, what has more behind it.
func TestParseSealed(t *testing.T) {
	next := noise(2)
	s := extent.Head{At: [4]int{1, 0, 65535, 4}, Sums: [4]uint32{5, 0, 7, 8}, Sum: sha.Of("x")}.Bytes()
	for n := range 64 {
		refused(t, "too short", s[:n], api.ErrEnd)
	}
	for _, more := range []string{"\x00", "x", s} {
		refused(t, "longer", s+more, api.ErrForm)
	}
	for at := range 64 {
		for b := 1; b < 256; b++ {
			bad := []byte(s)
			bad[at] ^= byte(b)
			refused(t, "a byte is spoilt", string(bad), api.ErrSum)
		}
	}
	for range 500 {
		refused(t, "noise", some(next, 64), api.ErrSum)
	}
	refused(t, "noughts", noughts(64), api.ErrSum)
}

// P11.1: another first byte than "E", and another byte than 0 behind the Sum.
func TestParseForm(t *testing.T) {
	body := laid(extent.Head{At: [4]int{9, 8, 7, 6}, Sums: [4]uint32{5, 4, 3, 2}, Sum: sha.Of("y")})
	for b := range 256 {
		if b != 'E' {
			refused(t, "another mark", sealed(string([]byte{byte(b)})+body[1:]), api.ErrForm)
		}
		if b != 0 {
			for at := 57; at < 60; at++ {
				bad := []byte(body)
				bad[at] = byte(b)
				refused(t, "a byte behind the Sum", sealed(string(bad)), api.ErrForm)
			}
		}
	}
}

// K2: of several errors the first one.
func TestParseOrder(t *testing.T) {
	s := sealed("N" + laid(extent.Head{})[1:])
	refused(t, "too short, another mark", s[:63], api.ErrEnd)
	refused(t, "too short, another sum", "x"+s[1:63], api.ErrEnd)
	refused(t, "another sum, longer, another mark", "x"+s[1:]+"z", api.ErrSum)
	refused(t, "longer, another mark", s+"z", api.ErrForm)
}

// P11.1: bytes 0 alone, of any length, and with one that isn't, wherever.
func TestZero(t *testing.T) {
	for n := range 300 {
		if !extent.Zero(noughts(n)) {
			t.Errorf("Zero of %d bytes 0: false", n)
		}
		for at := range n {
			for _, b := range []byte{1, ' ', '0', 0x80, 0xc0, 0xff} {
				s := []byte(noughts(n))
				s[at] = b
				if extent.Zero(string(s)) {
					t.Fatalf("Zero of %d bytes, with %x at %d: true", n, b, at)
				}
			}
		}
	}
}

// P11.1: the document's example, and each choice of sectors.
func TestCost(t *testing.T) {
	if n := extent.Cost("a" + noughts(255)); n != 2 {
		t.Errorf("Cost of the example: %d", n)
	}
	for set := range 16 {
		for at := range 64 {
			b, want := []byte(noughts(256)), 0
			for i := range 4 {
				if set>>i&1 == 1 {
					b[64*i+at] = 'x'
					want++
				}
			}
			if want > 0 {
				want++
			}
			if n := extent.Cost(string(b)); n != want {
				t.Fatalf("Cost of set %04b, byte %d: %d, not %d", set, at, n, want)
			}
		}
	}
}

// P11.1: Cost of what hasn't Len bytes: the last 64 may be less.
func TestCostLength(t *testing.T) {
	for n := range 700 {
		if c := extent.Cost(noughts(n)); c != 0 {
			t.Errorf("Cost of %d bytes 0: %d", n, c)
		}
		if n == 0 {
			continue
		}
		if c := extent.Cost(strings.Repeat("x", n)); c != 1+(n+63)/64 {
			t.Errorf("Cost of %d bytes: %d", n, c)
		}
		for _, one := range []string{"x" + noughts(n-1), noughts(n-1) + "x"} {
			if c := extent.Cost(one); c != 2 {
				t.Errorf("Cost of %d bytes, one of them not 0: %d", n, c)
			}
		}
	}
}
