package primegroup

import (
	"iter"

	"domino/api"
	"domino/modular"
	"domino/natural"
)

// maxPowers is the greatest logarithm that is searched for, and the greatest number of elements that are yielded.
const maxPowers = 65536

// Log returns the least k from 0 to most, and at most 65536, with base^k = x, and whether there is one.
func Log(g api.Group, base, x api.Nat, most int) (int, bool) {
	if !Has(g, base) || !Has(g, x) {
		return 0, false
	}
	most = min(most, maxPowers)
	k := 0
	for power := range powers(g, base) {
		if k > most {
			break
		}
		if power == x {
			return k, true
		}
		k++
	}
	return 0, false
}

// Elements yields 1, base, base^2, .. until 1 would come again, at most 65536 elements; nothing if base is no element.
func Elements(g api.Group, base api.Nat) iter.Seq[api.Nat] {
	return func(yield func(api.Nat) bool) {
		if !Has(g, base) {
			return
		}
		left := maxPowers
		for power := range powers(g, base) {
			if left == 0 || !yield(power) {
				return
			}
			left--
		}
	}
}

// powers yields 1, base, base^2, .. until 1 would come again, for a base that is an element.
func powers(g api.Group, base api.Nat) iter.Seq[api.Nat] {
	return func(yield func(api.Nat) bool) {
		one := natural.Of(1)
		for power := one; yield(power); {
			power, _ = modular.Mul(power, base, g.Modulus)
			if power == one {
				return
			}
		}
	}
}
