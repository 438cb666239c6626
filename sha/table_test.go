package sha

import (
	"math/big"
	"testing"
)

// primes: the first n.
func primes(n int) []int64 {
	var l []int64
	for x := int64(2); len(l) < n; x++ {
		if big.NewInt(x).ProbablyPrime(0) {
			l = append(l, x)
		}
	}
	return l
}

// behind: the first 32 bits behind the point of a root of x. They are the lowest of the greatest whole number
// whose power isn't above x times 2^32 to that power, so that no float is rounded.
func behind(x, power int64) uint32 {
	goal := new(big.Int).Lsh(big.NewInt(x), uint(32*power))
	low, high := big.NewInt(0), new(big.Int).Lsh(big.NewInt(x), 32)
	for low.Cmp(high) < 0 {
		mid := new(big.Int).Add(low, high)
		mid.Add(mid, big.NewInt(1)).Rsh(mid, 1)
		if new(big.Int).Exp(mid, big.NewInt(power), nil).Cmp(goal) <= 0 {
			low = mid
		} else {
			high = mid.Sub(mid, big.NewInt(1))
		}
	}
	return uint32(low.Uint64())
}

// P1.1: the tables are what the document says they are made of.
func TestTables(t *testing.T) {
	l := primes(64)
	for i, x := range start {
		if y := behind(l[i], 2); x != y {
			t.Errorf("start %d: %x, not %x", i, x, y)
		}
	}
	for i, x := range rounds {
		if y := behind(l[i], 3); x != y {
			t.Errorf("round %d: %x, not %x", i, x, y)
		}
	}
}
