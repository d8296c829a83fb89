package primegroup_test

import (
	"fmt"
	"testing"

	"domino/api"
	"domino/coins"
	"domino/integer"
	"domino/primegroup"
)

// mul returns a product, which must exist and be an element.
func mul(t *testing.T, g api.Group, a, b api.Nat) api.Nat {
	t.Helper()
	x, err := primegroup.Mul(g, a, b)
	if err != api.OK || !primegroup.Has(g, x) {
		t.Fatalf("the product of %q and %q modulo %q is %q, %d", a, b, g.Modulus, x, err)
	}
	return x
}

// raise returns a power, which must exist and be an element.
func raise(t *testing.T, g api.Group, a api.Nat, e api.Int) api.Nat {
	t.Helper()
	x, err := primegroup.Power(g, a, e)
	if err != api.OK || !primegroup.Has(g, x) {
		t.Fatalf("the power of %q and %v modulo %q is %q, %d", a, e, g.Modulus, x, err)
	}
	return x
}

// valid returns valid groups.
func valid() []api.Group {
	return append(wide(), group(3, 2), group(5, 2), group(7, 3), group(13, 3), group(23, 11), group(47, 23), group(65537, 2))
}

func TestP9_4Laws(t *testing.T) {
	for _, g := range valid() {
		for i := range 20 {
			var l [3]api.Nat
			for k := range l {
				x, err := primegroup.Hash(g, fmt.Sprint(i, " ", k))
				if err != api.OK {
					t.Fatalf("there is no element modulo %q: %d", g.Modulus, err)
				}
				l[k] = x
			}
			a, b, c := l[0], l[1], l[2]
			if mul(t, g, a, b) != mul(t, g, b, a) {
				t.Errorf("a b = b a fails for %q modulo %q", l, g.Modulus)
			}
			if mul(t, g, mul(t, g, a, b), c) != mul(t, g, a, mul(t, g, b, c)) {
				t.Errorf("(a b) c = a (b c) fails for %q modulo %q", l, g.Modulus)
			}
			if mul(t, g, a, raise(t, g, a, integer.Of(-1))) != of(1) || mul(t, g, a, of(1)) != a {
				t.Errorf("the inverse or 1 is wrong for %q modulo %q", a, g.Modulus)
			}
			if raise(t, g, a, integer.From(g.Order)) != of(1) {
				t.Errorf("%q raised to the order is not 1 modulo %q", a, g.Modulus)
			}
		}
	}
}

func TestP9_4SumsOfExponents(t *testing.T) {
	tape := coins.Seed("exponents")
	for _, g := range valid() {
		a := generator(g)
		for i := range 20 {
			var d, e api.Int
			var errD, errE api.Errno
			d, tape, errD = coins.Signed(tape, power(uint(1+50*i), 0))
			e, tape, errE = coins.Signed(tape, power(uint(1+20*i), 0))
			sum, err := integer.Add(d, e)
			if errD != api.OK || errE != api.OK || err != api.OK {
				t.Fatalf("there are no exponents: %d, %d, %d", errD, errE, err)
			}
			if raise(t, g, a, sum) != mul(t, g, raise(t, g, a, d), raise(t, g, a, e)) {
				t.Errorf("a^(d + e) = a^d a^e fails for %q, %v and %v modulo %q", a, d, e, g.Modulus)
			}
		}
	}
}

func TestP9_4NumberOfPowers(t *testing.T) {
	for p := uint64(2); p < 80; p++ {
		for q := uint64(2); q < p; q++ {
			g := group(p, q)
			if primegroup.Check(g) != api.OK {
				continue
			}
			count := uint64(0)
			for x := range p {
				if primegroup.Has(g, of(x)) {
					count++
				}
				if !primegroup.IsGenerator(g, of(x)) {
					continue
				}
				powers := map[api.Nat]bool{}
				for y := range primegroup.Elements(g, of(x)) {
					powers[y] = true
				}
				if uint64(len(powers)) != q {
					t.Errorf("the generator %d of the order %d modulo %d has %d powers", x, q, p, len(powers))
				}
			}
			if count != q {
				t.Errorf("there are %d elements of the order %d modulo %d", count, q, p)
			}
		}
	}
}
