package prime

import (
	"iter"

	"domino/api"
	"domino/natural"
)

// factorLimit bounds the numbers that are factored by division.
const factorLimit = 1 << 40

// Factors returns the prime factors of n in ascending order, each one as often as it divides n; ErrZero if n is 0, then ErrLong if n is at least 2^40.
func Factors(n api.Nat) ([]api.Nat, api.Errno) {
	if n == "" {
		return nil, api.ErrZero
	}
	v, err := small(n)
	if err != api.OK {
		return nil, err
	}
	if v >= factorLimit {
		return nil, api.ErrLong
	}
	var out []api.Nat
	for p := range factors(v) {
		out = append(out, natural.Of(p))
	}
	return out, api.OK
}

// factors yields the prime factors of n, which is not 0, in ascending order.
func factors(n uint64) iter.Seq[uint64] {
	return func(yield func(uint64) bool) {
		rest := n
		for d := uint64(2); d*d <= rest; d += 1 + d%2 {
			for rest%d == 0 {
				if !yield(d) {
					return
				}
				rest /= d
			}
		}
		if rest > 1 {
			yield(rest)
		}
	}
}
