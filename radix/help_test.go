package radix_test

import (
	"crypto/sha256"
	"encoding/binary"
	"strings"

	"stereobate/sha"
)

// noise: numbers below n, the same ones of the same seed.
func noise(seed uint64) func(n int) int {
	return func(n int) int {
		seed = seed*6364136223846793005 + 1442695040888963407
		return int((seed >> 33) % uint64(n))
	}
}

// some: so many bytes of noise, and noughts up to an extent.
func some(next func(int) int, n int) string {
	b := make([]byte, 256)
	for i := range n {
		b[i] = byte(1 + next(255))
	}
	return string(b)
}

func noughts(n int) string {
	return strings.Repeat("\x00", n)
}

// data: an extent whose sectors begin with these bytes, and are bytes 0 behind.
func data(parts ...string) string {
	s := ""
	for _, p := range parts {
		p = p[:min(len(p), 64)]
		s += p + noughts(64-len(p))
	}
	return s + noughts(256-len(s))
}

// digest: of a map's node, of a level, by the document's words, of the library's sum.
func digest(has map[int]string, level, first int) sha.Sum {
	n := []int{8, 64, 512}[level] / 8
	text, some := []byte{'N', byte(level)}, false
	for i := range 8 {
		var sum sha.Sum
		if s := has[first+i*n]; level > 0 {
			sum = digest(has, level-1, first+i*n)
		} else if s != "" && s != noughts(256) {
			sum = sha256.Sum256([]byte(s))
		}
		some = some || sum != sha.Sum{}
		text = append(text, sum[:]...)
	}
	if !some {
		return sha.Sum{}
	}
	return sha256.Sum256(text)
}

// two: a number in two bytes.
func two(s string, at int) int {
	return int(binary.BigEndian.Uint16([]byte(s[at:])))
}
