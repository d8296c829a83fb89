package certificate

import (
	"testing"

	"domino/api"
	"domino/natural"
)

// TestP7_2CompositeBase checks the search of a base for composite numbers with factors that suffice. The other tests have no such number that is a probable prime, but the search has to end for one, too.
func TestP7_2CompositeBase(t *testing.T) {
	for _, c := range []struct {
		n       uint64
		factors []uint64
	}{
		{91, []uint64{2, 3, 5}}, {15, []uint64{2, 7}}, {9, []uint64{2}}, {25, []uint64{2, 3}},
		{341, []uint64{2, 5, 17}}, {561, []uint64{2, 5, 7}}, {1729, []uint64{2, 3}}, {2047, []uint64{2, 3, 11, 31}}, {8911, []uint64{2, 3, 5, 11}},
		{3215031751, []uint64{2, 3, 5, 7, 11, 151, 3, 5}}, {65537 * 65537, []uint64{2, 3, 11}},
	} {
		var factors []api.Nat
		for _, f := range c.factors {
			factors = append(factors, natural.Of(f))
		}
		if base, err := leastBase(factors, natural.Of(c.n)); base != "" || err != api.ErrNone {
			t.Errorf("the base of %d is %q, %d", c.n, base, err)
		}
	}
}

// TestP7_2SmallPrimes checks the primes that numbers are divided by.
func TestP7_2SmallPrimes(t *testing.T) {
	l := smallPrimes()
	if len(l) != 6542 || l[0] != natural.Of(2) || l[6541] != natural.Of(65521) {
		t.Errorf("%d primes from %q to %q", len(l), l[0], l[len(l)-1])
	}
	for i, p := range l {
		if !isSmallPrime(p) || i > 0 && natural.Cmp(l[i-1], p) >= 0 {
			t.Errorf("%q is in the list", p)
		}
	}
}
