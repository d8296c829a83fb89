package modular

import (
	"iter"

	"domino/api"
	"domino/natural"
)

// power returns x^e, where one is x^0 and times multiplies.
func power(one, x []uint64, e api.Nat, times func(x, y []uint64) []uint64) []uint64 {
	out := one
	for digit := range digits(e) {
		out = times(out, out)
		if digit {
			out = times(out, x)
		}
	}
	return out
}

// digits yields the binary digits of a, the most significant one first.
func digits(a api.Nat) iter.Seq[bool] {
	return func(yield func(bool) bool) {
		count := natural.Bits(a)
		for i := range count {
			if !yield(natural.Bit(a, count-1-i)) {
				return
			}
		}
	}
}
