// Package sha is layer 1: see shared/doc/01-sha.md.
package sha

import "math/bits"

// Sum is of 256 bits.
type Sum [32]byte

const (
	blockLen = 64
	countAt  = blockLen - 8 // where the number of bits stands in the last block
	digits   = "0123456789abcdef"
)

// start: the first 32 bits behind the point of the square roots of the first eight primes.
var start = [8]uint32{
	0x6a09e667, 0xbb67ae85, 0x3c6ef372, 0xa54ff53a, 0x510e527f, 0x9b05688c, 0x1f83d9ab, 0x5be0cd19,
}

// rounds: the first 32 bits behind the point of the cube roots of the first 64 primes.
var rounds = [blockLen]uint32{
	0x428a2f98, 0x71374491, 0xb5c0fbcf, 0xe9b5dba5, 0x3956c25b, 0x59f111f1, 0x923f82a4, 0xab1c5ed5,
	0xd807aa98, 0x12835b01, 0x243185be, 0x550c7dc3, 0x72be5d74, 0x80deb1fe, 0x9bdc06a7, 0xc19bf174,
	0xe49b69c1, 0xefbe4786, 0x0fc19dc6, 0x240ca1cc, 0x2de92c6f, 0x4a7484aa, 0x5cb0a9dc, 0x76f988da,
	0x983e5152, 0xa831c66d, 0xb00327c8, 0xbf597fc7, 0xc6e00bf3, 0xd5a79147, 0x06ca6351, 0x14292967,
	0x27b70a85, 0x2e1b2138, 0x4d2c6dfc, 0x53380d13, 0x650a7354, 0x766a0abb, 0x81c2c92e, 0x92722c85,
	0xa2bfe8a1, 0xa81a664b, 0xc24b8b70, 0xc76c51a3, 0xd192e819, 0xd6990624, 0xf40e3585, 0x106aa070,
	0x19a4c116, 0x1e376c08, 0x2748774c, 0x34b0bcb5, 0x391c0cb3, 0x4ed8aa4a, 0x5b9cca4f, 0x682e6ff3,
	0x748f82ee, 0x78a5636f, 0x84c87814, 0x8cc70208, 0x90befffa, 0xa4506ceb, 0xbef9a3f7, 0xc67178f2,
}

// text is what was read so far: the words of its whole blocks, and the bytes behind them.
// So no copy of all parts together is needed, however long they are.
type text struct {
	words [8]uint32
	block [blockLen]byte
	used  int    // bytes of block that are there
	size  uint64 // bytes of all
}

// Of: of texts, one behind the other.
func Of(parts ...string) Sum {
	t := text{words: start}
	for _, p := range parts {
		t.add(p)
	}
	return t.end()
}

func (t *text) add(s string) {
	t.size += uint64(len(s))
	for len(s) > 0 {
		n := copy(t.block[t.used:], s)
		s = s[n:]
		t.used += n
		if t.used == blockLen {
			t.mix()
			t.used = 0
		}
	}
}

func (t *text) end() Sum {
	count := t.size * 8 // ahead of what is put behind, which isn't counted
	t.add("\x80")
	for t.used != countAt {
		t.add("\x00")
	}
	for i := range 8 {
		t.block[countAt+i] = byte(count >> (56 - 8*i))
	}
	t.mix()
	var s Sum
	for i, w := range t.words {
		s[4*i] = byte(w >> 24)
		s[4*i+1] = byte(w >> 16)
		s[4*i+2] = byte(w >> 8)
		s[4*i+3] = byte(w)
	}
	return s
}

// mix turns the words by a whole block.
func (t *text) mix() {
	w := t.spread()
	h := &t.words
	a, b, c, d, e, f, g, z := h[0], h[1], h[2], h[3], h[4], h[5], h[6], h[7]
	for i := range blockLen {
		one := right(e, 6) ^ right(e, 11) ^ right(e, 25)
		nought := right(a, 2) ^ right(a, 13) ^ right(a, 22)
		first := z + one + choice(e, f, g) + rounds[i] + w[i]
		second := nought + majority(a, b, c)
		a, b, c, d, e, f, g, z = first+second, a, b, c, d+first, e, f, g
	}
	h[0] += a
	h[1] += b
	h[2] += c
	h[3] += d
	h[4] += e
	h[5] += f
	h[6] += g
	h[7] += z
}

// spread: the sixteen words of the block, and those that are made of them.
func (t *text) spread() [blockLen]uint32 {
	var w [blockLen]uint32
	for i := range 16 {
		b := t.block[4*i : 4*i+4]
		w[i] = uint32(b[0])<<24 | uint32(b[1])<<16 | uint32(b[2])<<8 | uint32(b[3])
	}
	for k := range blockLen - 16 {
		i := k + 16
		x, y := w[i-15], w[i-2]
		nought := right(x, 7) ^ right(x, 18) ^ x>>3
		one := right(y, 17) ^ right(y, 19) ^ y>>10
		w[i] = w[i-16] + nought + w[i-7] + one
	}
	return w
}

func right(x uint32, n int) uint32 {
	return bits.RotateLeft32(x, -n)
}

func choice(e, f, g uint32) uint32 {
	return e&f | g&^e
}

func majority(a, b, c uint32) uint32 {
	return a&b | a&c | b&c
}

// Text: its bytes.
func (s Sum) Text() string {
	return string(s[:])
}

// Hex: two digits a byte.
func (s Sum) Hex() string {
	out := make([]byte, 0, 2*len(s))
	for _, b := range s {
		out = append(out, digits[b>>4], digits[b&15])
	}
	return string(out)
}

// Head: its first bits alone, noughts behind.
func (s Sum) Head(n int) Sum {
	n = min(max(n, 0), 8*len(s))
	whole, rest := n/8, n%8
	var out Sum
	copy(out[:], s[:whole])
	if rest > 0 {
		out[whole] = s[whole] &^ (0xff >> rest)
	}
	return out
}
