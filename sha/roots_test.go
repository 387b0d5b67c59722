package sha

import (
	"math/big"
	"testing"
)

// root tells the first 32 bits behind the point of a number's root.
func root(number, degree int64) uint32 {
	// The root of number * 2^(32 * degree) is the root of number, 32 bits further up.
	goal := new(big.Int).Lsh(big.NewInt(number), uint(32*degree))
	least, above := big.NewInt(0), new(big.Int).Lsh(big.NewInt(number), 32)
	for {
		middle := new(big.Int).Add(least, above)
		middle.Rsh(middle, 1)
		if middle.Cmp(least) == 0 {
			return uint32(least.Uint64())
		}
		if new(big.Int).Exp(middle, big.NewInt(degree), nil).Cmp(goal) <= 0 {
			least = middle
		} else {
			above = middle
		}
	}
}

// P1.1: the words of the roots are those of the primes.
func TestRoots(t *testing.T) {
	count := 0
	for n := int64(2); count < len(cubeWords); n++ {
		if !big.NewInt(n).ProbablyPrime(0) {
			continue
		}
		if cubeWords[count] != root(n, 3) {
			t.Errorf("the cube word of %d", n)
		}
		if count < len(squareWords) && squareWords[count] != root(n, 2) {
			t.Errorf("the square word of %d", n)
		}
		count++
	}
}
