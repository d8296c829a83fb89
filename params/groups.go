package params

import (
	"domino/api"
	"domino/natural"
)

const (
	maxMainBits  = 40    // of the order of a group
	maxWholeBits = 32    // of each prime of a trapdoor
	maxFactor    = 65536 // the greatest quotient of a modulus minus 1 and the order
)

// Main draws a prime with so many bits, and returns the group of this order with the least modulus; ErrForm if the tape is not well-formed, then ErrRange if bits is not from 2 to 40, then the errors of Prime, then ErrPrime if there is no modulus.
func Main(bits int, t api.Tape) (api.Group, api.Tape, api.Errno) {
	if err := checkDraw(t, bits, 2, maxMainBits); err != api.OK {
		return api.Group{}, api.Tape{}, err
	}
	order, rest, err := Prime(bits, t)
	if err != api.OK {
		return api.Group{}, api.Tape{}, err
	}
	q, _ := natural.Small(order)
	modulus, err := modulusFor(q)
	if err != api.OK {
		return api.Group{}, api.Tape{}, err
	}
	return api.Group{Modulus: modulus, Order: order}, rest, api.OK
}

// modulusFor returns the least prime k q + 1 with an even k from 2 to 65536; ErrPrime if there is none.
func modulusFor(q uint64) (api.Nat, api.Errno) {
	k := uint64(2)
factors:
	for {
		switch {
		case isPrime(k*q + 1):
			break factors
		case k == maxFactor:
			return "", api.ErrPrime
		}
		k += 2
	}
	return natural.Of(k*q + 1), api.OK
}

// Whole draws two different safe primes with so many bits, and returns the group of unknown order with their product as modulus, and the trapdoor; ErrForm if the tape is not well-formed, then ErrRange if bits is not from 3 to 32, then the errors of SafePrime, then ErrPrime if all primes behind the first one are equal to it.
func Whole(bits int, t api.Tape) (api.Group, api.Trapdoor, api.Tape, api.Errno) {
	if err := checkDraw(t, bits, 3, maxWholeBits); err != api.OK {
		return api.Group{}, api.Trapdoor{}, api.Tape{}, err
	}
	p, rest, err := SafePrime(bits, t)
	if err != api.OK {
		return api.Group{}, api.Trapdoor{}, api.Tape{}, err
	}
	q, rest, err := otherSafePrime(bits, p, rest)
	if err != api.OK {
		return api.Group{}, api.Trapdoor{}, api.Tape{}, err
	}
	n, err := natural.Mul(p, q)
	if err != api.OK {
		return api.Group{}, api.Trapdoor{}, api.Tape{}, err
	}
	return api.Group{Modulus: n}, api.Trapdoor{P: p, Q: q}, rest, api.OK
}

// otherSafePrime draws safe primes until one of them differs from p; the errors of SafePrime, then ErrPrime if 64 of them are equal to p.
func otherSafePrime(bits int, p api.Nat, t api.Tape) (api.Nat, api.Tape, api.Errno) {
	for range api.MaxTries {
		q, rest, err := SafePrime(bits, t)
		if err != api.OK {
			return "", api.Tape{}, err
		}
		if q != p {
			return q, rest, api.OK
		}
		t = rest
	}
	return "", api.Tape{}, api.ErrPrime
}
