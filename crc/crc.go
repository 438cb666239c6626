// Package crc is layer 2: see shared/doc/02-crc.md.
package crc

// castagnoli is the divisor, its lowest bit first, as the sum moves down.
const castagnoli = 0x82f63b78

// Sum: of texts, one behind the other.
func Sum(parts ...string) uint32 {
	sum := ^uint32(0)
	for _, p := range parts {
		sum = add(sum, p)
	}
	return ^sum
}

func add(sum uint32, s string) uint32 {
	for i := range len(s) {
		sum = step(sum ^ uint32(s[i]))
	}
	return sum
}

// step: eight bits leave the sum.
func step(sum uint32) uint32 {
	for range 8 {
		left := sum & 1
		sum >>= 1
		if left == 1 {
			sum ^= castagnoli
		}
	}
	return sum
}
