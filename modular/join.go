package modular

import (
	"domino/api"
	"domino/integer"
	"domino/natural"
)

// Join returns the least number that is congruent to a modulo m and to b modulo n, and the least common multiple of m and n; ErrZero if m or n is 0, then ErrNone if there is no such number, then ErrLong if the multiple is too long.
func Join(a, m, b, n api.Nat) (api.Nat, api.Nat, api.Errno) {
	if !natural.Valid(m) {
		return "", "", api.ErrForm
	}
	if err := check(n, a, b); err != api.OK {
		return "", "", err
	}
	if m == "" {
		return "", "", api.ErrZero
	}
	g, _ := natural.Gcd(m, n)
	if remainder(a, g) != remainder(b, g) {
		return "", "", api.ErrNone
	}
	rest, _, _ := natural.DivMod(n, g)
	multiple, err := natural.Mul(m, rest)
	if err != api.OK {
		return "", "", err
	}
	// The result is at most (m - 1) + m (n/g - 1), so it is not too long either.
	a = remainder(a, m)
	skipped, _ := natural.Mul(m, steps(a, m, b, g, rest))
	x, _ := natural.Add(a, skipped)
	return x, multiple, api.OK
}

// steps returns the least k for which a + k m is congruent to b modulo g rest, where g is the greatest common divisor of m and g rest, and divides b - a.
func steps(a, m, b, g, rest api.Nat) api.Nat {
	gap, _ := integer.Sub(integer.From(b), integer.From(a))
	gap, _ = integer.Divide(gap, integer.From(g))
	need, _ := integer.Mod(gap, rest)
	step, _, _ := natural.DivMod(m, g)
	inverse, _ := Inverse(step, rest)
	k, _ := Mul(need, inverse, rest)
	return k
}
