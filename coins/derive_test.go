package coins

import (
	"testing"

	"domino/api"
	"domino/natural"
)

// TestP6_2Attempts checks the case that no seed is known for: none of the numbers is less than the bound.
func TestP6_2Attempts(t *testing.T) {
	count := 0
	for range candidates("s", 0, 8) {
		count++
	}
	if count != 256 {
		t.Errorf("a seed offers %d numbers, want 256", count)
	}
	for small := range 258 {
		x, err := firstBelow(func(yield func(api.Nat) bool) {
			for a := range 256 {
				n := natural.Of(uint64(500 + a))
				if a == small {
					n = natural.Of(7)
				}
				if !yield(n) {
					return
				}
			}
		}, natural.Of(500))
		if small < 256 && (x != natural.Of(7) || err != api.OK) || small >= 256 && (x != "" || err != api.ErrCoins) {
			t.Errorf("with a small number at %d the coin is %q, %d", small, x, err)
		}
	}
}
