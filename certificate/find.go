package certificate

import (
	"slices"

	"domino/api"
	"domino/natural"
	"domino/prime"
)

// Find returns the certificate of n; ErrForm if n is not canonical, then ErrPrime if it is neither a prime number below 65536 nor a probable prime, then ErrNone if too few factors of its predecessor, or of that of a factor, are found.
func Find(n api.Nat) (api.Certificate, api.Errno) {
	if !natural.Valid(n) {
		return api.Certificate{}, api.ErrForm
	}
	if !isSmallPrime(n) && !isProbablePrime(n) {
		return api.Certificate{}, api.ErrPrime
	}
	var steps []api.Step
	places := map[api.Nat]int{}
	var add func(n api.Nat) api.Errno
	add = func(n api.Nat) api.Errno {
		if _, ok := places[n]; ok {
			return api.OK
		}
		factors, base, err := proof(n)
		if err != api.OK {
			return err
		}
		var indices []int
		for _, f := range factors {
			if err := add(f); err != api.OK {
				return err
			}
			indices = append(indices, places[f])
		}
		// A factor may have got its step before a smaller one, as a factor of another number.
		slices.Sort(indices)
		places[n] = len(steps)
		steps = append(steps, api.Step{Prime: n, Base: base, Factors: indices})
		return api.OK
	}
	if err := add(n); err != api.OK {
		return api.Certificate{}, err
	}
	return api.Certificate{Steps: steps}, api.OK
}

// proof returns the factors and the base of the step of n, which is a prime below smallLimit or a probable prime; ErrNone if there are none.
func proof(n api.Nat) ([]api.Nat, api.Nat, api.Errno) {
	if isSmallPrime(n) {
		return nil, "", api.OK
	}
	factors := factorsBefore(n)
	if !suffice(factors, n) {
		return nil, "", api.ErrNone
	}
	base, err := leastBase(factors, n)
	if err != api.OK {
		return nil, "", err
	}
	return factors, base, api.OK
}

// factorsBefore returns the prime factors of n - 1 that are used, in ascending order: those below smallLimit, and what is left without them if it is a probable prime.
func factorsBefore(n api.Nat) []api.Nat {
	var out []api.Nat
	rest := before(n)
	for _, p := range smallPrimes() {
		if left := without(rest, p); left != rest {
			out = append(out, p)
			rest = left
		}
	}
	if isProbablePrime(rest) {
		out = append(out, rest)
	}
	return out
}

// leastBase returns the least base that proves that n is prime by factors of n - 1 that suffice; ErrNone if a base shows that n is composite, as then there is none.
func leastBase(factors []api.Nat, n api.Nat) (api.Nat, api.Errno) {
	one := natural.Of(1)
	base := one
bases:
	for {
		base, _ = natural.Add(base, one)
		if !returns(base, n) {
			break
		}
		for _, f := range factors {
			switch common(base, f, n) {
			case one:
			case n:
				// The power is 1: this base says nothing about n.
				continue bases
			default:
				// A proper divisor of n.
				break bases
			}
		}
		return base, api.OK
	}
	return "", api.ErrNone
}

// isProbablePrime reports whether n is at least smallLimit and passes the strong test for the first twelve primes as bases.
func isProbablePrime(n api.Nat) bool {
	if natural.Cmp(n, natural.Of(smallLimit)) < 0 {
		return false
	}
	for _, b := range [...]uint64{2, 3, 5, 7, 11, 13, 17, 19, 23, 29, 31, 37} {
		if passes, _ := prime.Strong(n, natural.Of(b)); !passes {
			return false
		}
	}
	return true
}

// smallPrimes returns the primes below smallLimit in ascending order.
func smallPrimes() []api.Nat {
	var composite [smallLimit]bool
	var out []api.Nat
	for p := 2; p < smallLimit; p++ {
		if composite[p] {
			continue
		}
		out = append(out, natural.Of(uint64(p)))
		for m := 2 * p; m < smallLimit; m += p {
			composite[m] = true
		}
	}
	return out
}
