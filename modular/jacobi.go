package modular

import (
	"domino/api"
	"domino/natural"
)

// Jacobi returns the Jacobi symbol (a/n): -1, 0 or 1; ErrZero if n is 0, then ErrArg if n is even.
func Jacobi(a, n api.Nat) (int, api.Errno) {
	if err := check(n, a); err != api.OK {
		return 0, err
	}
	if !natural.Bit(n, 0) {
		return 0, api.ErrArg
	}
	sign := 1
	for a = remainder(a, n); a != ""; a = remainder(a, n) {
		odd, twos := withoutTwos(a)
		// (2/n) is -1 for the remainders 3 and 5 modulo 8.
		if twos%2 == 1 && natural.Bit(n, 1) != natural.Bit(n, 2) {
			sign = -sign
		}
		// The law of reciprocity: (a/n) is -(n/a) if both are 3 modulo 4, and (n/a) otherwise.
		if natural.Bit(odd, 1) && natural.Bit(n, 1) {
			sign = -sign
		}
		a, n = n, odd
	}
	if n != natural.Of(1) {
		return 0, api.OK
	}
	return sign, api.OK
}

// withoutTwos returns the odd number d and the number s with a = 2^s d, for an a that is not 0.
func withoutTwos(a api.Nat) (api.Nat, int) {
	s := 0
	for !natural.Bit(a, s) {
		s++
	}
	two := make([]byte, s/8+1)
	two[0] = 1 << (s % 8)
	d, _, _ := natural.DivMod(a, api.Nat(two))
	return d, s
}
