package rsagroup

import (
	"domino/api"
	"domino/modular"
	"domino/natural"
	"domino/prime"
)

// primes are the two primes of a trapdoor.
type primes [2]api.Nat

// Check returns OK if g is a group of unknown order and t its trapdoor; ErrForm, then ErrGroup if g is no such group, then ErrArg if the product of the primes is not the modulus, then the errors of the primes.
func Check(g api.Group, t api.Trapdoor) api.Errno {
	pair := primesOf(t)
	switch {
	case !wellFormed(g) || !pair.wellFormed():
		return api.ErrForm
	case !unknownOrder(g):
		return api.ErrGroup
	}
	// A product that is too long is no modulus.
	if n, err := natural.Mul(pair[0], pair[1]); err != api.OK || n != g.Modulus {
		return api.ErrArg
	}
	return pair.check()
}

// Order returns the order of the squares; ErrForm, then the errors of the primes.
func Order(t api.Trapdoor) (api.Nat, api.Errno) {
	pair := primesOf(t)
	if !pair.wellFormed() {
		return "", api.ErrForm
	}
	if err := pair.check(); err != api.OK {
		return "", err
	}
	return pair.order(), api.OK
}

// IsSquare reports whether the element x is a square; ErrForm, then the error of Check, then ErrGroup if x is no element.
func IsSquare(g api.Group, t api.Trapdoor, x api.Nat) (bool, api.Errno) {
	if err := checkElement(g, t, x); err != api.OK {
		return false, err
	}
	return primesOf(t).isSquare(x), api.OK
}

// IsGenerator reports whether the element x is a square that generates the squares; its errors are those of IsSquare.
func IsGenerator(g api.Group, t api.Trapdoor, x api.Nat) (bool, api.Errno) {
	if err := checkElement(g, t, x); err != api.OK {
		return false, err
	}
	pair := primesOf(t)
	return pair.isSquare(x) && pair.isOneNowhere(x), api.OK
}

// Root returns the only square y with y^e = x; the errors of IsSquare come first, then ErrArg if x is not a square, then ErrNone if e and the order of the squares have a common divisor.
func Root(g api.Group, t api.Trapdoor, x, e api.Nat) (api.Nat, api.Errno) {
	if !natural.Valid(e) {
		return "", api.ErrForm
	}
	if err := checkElement(g, t, x); err != api.OK {
		return "", err
	}
	pair := primesOf(t)
	if !pair.isSquare(x) {
		return "", api.ErrArg
	}
	inverse, err := modular.Inverse(e, pair.order())
	if err != api.OK {
		return "", err
	}
	return modular.Exp(x, inverse, g.Modulus)
}

// checkElement returns ErrForm, then the error of Check, then ErrGroup if x is no element.
func checkElement(g api.Group, t api.Trapdoor, x api.Nat) api.Errno {
	if !natural.Valid(x) {
		return api.ErrForm
	}
	if err := Check(g, t); err != api.OK {
		return err
	}
	if !Has(g, x) {
		return api.ErrGroup
	}
	return api.OK
}

// primesOf returns the primes of t.
func primesOf(t api.Trapdoor) primes { return primes{t.P, t.Q} }

// wellFormed reports whether both numbers are canonical.
func (l primes) wellFormed() bool {
	return natural.Valid(l[0]) && natural.Valid(l[1])
}

// check returns the error of prime.Safe for the first one, then for the second one, then ErrPrime if they are not two different safe primes.
func (l primes) check() api.Errno {
	safe := true
	for i := range len(l) {
		is, err := prime.Safe(l[i])
		if err != api.OK {
			return err
		}
		safe = safe && is
	}
	if !safe || l[0] == l[1] {
		return api.ErrPrime
	}
	return api.OK
}

// order returns the order of the squares, which is the product of the numbers of squares modulo each prime.
func (l primes) order() api.Nat {
	out := natural.Of(1)
	for i := range len(l) {
		half, _, _ := natural.DivMod(l[i], natural.Of(2))
		out, _ = natural.Mul(out, half)
	}
	return out
}

// isSquare reports whether an element is a square, which it is if it is one modulo each prime.
func (l primes) isSquare(x api.Nat) bool {
	for i := range len(l) {
		if symbol, _ := modular.Jacobi(x, l[i]); symbol != 1 {
			return false
		}
	}
	return true
}

// isOneNowhere reports whether an element is 1 modulo neither prime. Such a square generates all of them: modulo each prime their number is a prime, so that every square but 1 generates them, and both numbers are different.
func (l primes) isOneNowhere(x api.Nat) bool {
	for i := range len(l) {
		if _, rest, _ := natural.DivMod(x, l[i]); rest == natural.Of(1) {
			return false
		}
	}
	return true
}
