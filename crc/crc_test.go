package crc_test

import (
	"hash/crc32"
	"slices"
	"strings"
	"testing"

	"stereobate/crc"
)

// noise is n bytes, the same ones each time.
func noise(n int, seed uint32) []byte {
	b := make([]byte, n)
	for i := range b {
		seed = seed*1664525 + 1013904223
		b[i] = byte(seed >> 24)
	}
	return b
}

func known(s string) uint32 {
	return crc32.Checksum([]byte(s), crc32.MakeTable(crc32.Castagnoli))
}

// P2.1: Sum, by sums that are known from elsewhere.
func TestKnownSums(t *testing.T) {
	for _, c := range []struct {
		text string
		sum  uint32
	}{
		{"", 0},
		{"a", 0xc1d04330},
		{"123456789", 0xe3069283},
		{"\x00\x00\x00\x00", 0x48674bc7},
		{strings.Repeat("\x00", 32), 0x8a9136aa},
		{strings.Repeat("\xff", 32), 0x62a8ab43},
	} {
		if x := crc.Sum(c.text); x != c.sum {
			t.Errorf("Sum %q: %x, not %x", c.text, x, c.sum)
		}
	}
}

// P2.1: of no part, and of parts that are empty, it is 0.
func TestSumOfNothing(t *testing.T) {
	for _, parts := range [][]string{nil, {}, {""}, {"", "", ""}, make([]string, 100)} {
		if x := crc.Sum(parts...); x != 0 {
			t.Errorf("Sum of %d empty parts: %x", len(parts), x)
		}
	}
	if crc.Sum() != 0 {
		t.Errorf("Sum(): %x", crc.Sum())
	}
	if crc.Sum("", "1234", "", "56789", "") != 0xe3069283 {
		t.Error("empty parts between others change the sum")
	}
}

// P2.1: of each byte, of many lengths.
func TestSumLengths(t *testing.T) {
	for b := range 256 {
		s := string([]byte{byte(b)})
		if crc.Sum(s) != known(s) {
			t.Errorf("Sum %q: %x", s, crc.Sum(s))
		}
	}
	all := string(noise(300, 1))
	for n := range len(all) + 1 {
		if crc.Sum(all[:n]) != known(all[:n]) {
			t.Errorf("Sum of %d bytes: %x", n, crc.Sum(all[:n]))
		}
	}
	if s := string(noise(1<<20, 2)); crc.Sum(s) != known(s) {
		t.Errorf("Sum of %d bytes: %x", len(s), crc.Sum(s))
	}
}

// P2.1: wherever a text is cut into parts, its sum is one.
func TestSumParts(t *testing.T) {
	all := string(noise(100, 3))
	want := known(all)
	for i := range len(all) + 1 {
		for j := i; j <= len(all); j++ {
			if crc.Sum(all[:i], all[i:j], all[j:]) != want {
				t.Fatalf("cut at %d and %d", i, j)
			}
		}
	}
	var one []string
	for i := range len(all) {
		one = append(one, all[i:i+1])
	}
	if crc.Sum(one...) != want {
		t.Error("byte by byte")
	}
	if crc.Sum("ab", "c") == crc.Sum("c", "ab") {
		t.Error("the order of parts isn't told")
	}
}

// spoilt is a text that differs by these bytes, from one on.
func spoilt(text []byte, at int, by ...byte) string {
	b := slices.Clone(text)
	for i, x := range by {
		b[at+i] ^= x
	}
	return string(b)
}

// P2.2: one byte is another one, whichever, wherever.
func TestSpoiltByte(t *testing.T) {
	for _, n := range []int{1, 2, 5, 64, 256} {
		text := noise(n, uint32(n))
		sum := crc.Sum(string(text))
		for at := range n {
			for by := 1; by < 256; by++ {
				if crc.Sum(spoilt(text, at, byte(by))) == sum {
					t.Fatalf("%d bytes, at %d, by %x: one sum", n, at, by)
				}
			}
		}
	}
}

// P2.2: two bytes beside each other, all differences there are.
func TestSpoiltTwo(t *testing.T) {
	text := noise(7, 4)
	sum := crc.Sum(string(text))
	for at := range len(text) - 1 {
		for by := 1; by < 1<<16; by++ {
			if crc.Sum(spoilt(text, at, byte(by>>8), byte(by))) == sum {
				t.Fatalf("at %d, by %x: one sum", at, by)
			}
		}
	}
}

// P2.2: two to four bytes beside each other, some differences, in a sector.
func TestSpoiltFew(t *testing.T) {
	by := noise(4*5000, 5)
	for _, text := range [][]byte{noise(64, 6), make([]byte, 64), noise(4, 7)} {
		sum := crc.Sum(string(text))
		for i := range len(by) / 4 {
			for n := 2; n <= 4; n++ {
				x := by[4*i : 4*i+n]
				if slices.Max(x) == 0 {
					continue
				}
				at := i % (len(text) - n + 1)
				if crc.Sum(spoilt(text, at, x...)) == sum {
					t.Fatalf("%d bytes, at %d, by %x: one sum", len(text), at, x)
				}
			}
		}
	}
}

// rank: how many of these are no xor of others ahead of them.
func rank(l []uint32) int {
	var pivots [32]uint32
	n := 0
	for _, x := range l {
		for bit := 31; bit >= 0 && x != 0; bit-- {
			if x>>bit == 0 {
				continue
			}
			if pivots[bit] == 0 {
				pivots[bit] = x
				n++
				break
			}
			x ^= pivots[bit]
		}
	}
	return n
}

// P2.2: all differences of four bytes at once. What a difference does to the sum is the xor of what its bits do;
// where these 32 are independent, no difference but none leaves the sum as it is.
func TestSpoiltFour(t *testing.T) {
	for _, n := range []int{4, 5, 7, 8, 31, 64, 200} {
		text := noise(n, uint32(100+n))
		sum := crc.Sum(string(text))
		for at := range n - 3 {
			var bits []uint32
			for i := range 32 {
				var by [4]byte
				by[i/8] = 1 << (i % 8)
				bits = append(bits, crc.Sum(spoilt(text, at, by[:]...))^sum)
			}
			if r := rank(bits); r != 32 {
				t.Errorf("%d bytes, at %d: rank %d", n, at, r)
			}
			by := noise(4, uint32(at))
			want := sum
			for i := range 32 {
				if by[i/8]>>(i%8)&1 == 1 {
					want ^= bits[i]
				}
			}
			if crc.Sum(spoilt(text, at, by...)) != want {
				t.Errorf("%d bytes, at %d, by %x: the sum isn't the xor of the bits'", n, at, by)
			}
		}
	}
}

// K3, K4: what is handed in stays, and answers are the same ones again.
func TestNothingIsKept(t *testing.T) {
	parts := []string{"12", "", "3456789"}
	was := slices.Clone(parts)
	x := crc.Sum(parts...)
	crc.Sum(string(noise(1000, 8)))
	if crc.Sum(parts...) != x || !slices.Equal(parts, was) {
		t.Errorf("parts are %q, their sum %x, not %x", parts, crc.Sum(parts...), x)
	}
}
