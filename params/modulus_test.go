package params

import (
	"testing"

	"domino/api"
	"domino/natural"
)

// TestP11_2NoModulus calls the search of a modulus with 0, as no prime order is known for which there is none.
func TestP11_2NoModulus(t *testing.T) {
	if p, err := modulusFor(0); p != "" || err != api.ErrPrime {
		t.Errorf("the modulus for 0 is %q, %d", p, err)
	}
	if p, err := modulusFor(7); p != natural.Of(29) || err != api.OK {
		t.Errorf("the modulus for 7 is %q, %d", p, err)
	}
}
