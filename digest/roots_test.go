package digest

import (
	"math/big"
	"testing"
)

// firstPrimes divides, so that a wrong number in the program's own list is seen.
func firstPrimes(count int) []int64 {
	var primes []int64
	for n := int64(2); len(primes) < count; n++ {
		prime := true
		for _, p := range primes {
			prime = prime && n%p != 0
		}
		if prime {
			primes = append(primes, n)
		}
	}
	return primes
}

// isRoot: the places are those of some root r with r^degree <= n * 2^(32 degree) < (r+1)^degree.
func isRoot(places uint32, n, degree int64) bool {
	bound := new(big.Int).Lsh(big.NewInt(n), uint(32*degree))
	for whole := int64(1); whole*whole <= n; whole++ {
		r := big.NewInt(whole<<32 | int64(places))
		next := new(big.Int).Add(r, big.NewInt(1))
		low := new(big.Int).Exp(r, big.NewInt(degree), nil)
		high := new(big.Int).Exp(next, big.NewInt(degree), nil)
		if low.Cmp(bound) <= 0 && bound.Cmp(high) < 0 {
			return true
		}
	}
	return false
}

func TestConstantsAreRootsOfPrimes(t *testing.T) {
	for i, p := range firstPrimes(numRounds) {
		if i < numState && !isRoot(roots[i], p, 2) {
			t.Errorf("1.1: H%d = %08x is not of the square root of %d", i, roots[i], p)
		}
		if k := roots[numState+i]; !isRoot(k, p, 3) {
			t.Errorf("1.1: K%d = %08x is not of the cube root of %d", i, k, p)
		}
	}
}

func TestConstantsOfExample4(t *testing.T) {
	for _, c := range []struct {
		name      string
		got, want uint32
	}{
		{"H0", roots[0], 0x6a09e667},
		{"H7", roots[7], 0x5be0cd19},
		{"K0", roots[numState], 0x428a2f98},
		{"K63", roots[numState+63], 0xc67178f2},
	} {
		if c.got != c.want {
			t.Errorf("1.1: %s = %08x, want %08x", c.name, c.got, c.want)
		}
	}
}
