package modular_test

import (
	"testing"

	"domino/api"
	"domino/modular"
	"domino/natural"
)

// value is a number in a calculation modulo m, which must not fail.
type value struct {
	t    *testing.T
	m, n api.Nat
}

func (a value) apply(f func(a, b, m api.Nat) (api.Nat, api.Errno), b api.Nat) value {
	a.t.Helper()
	n, err := f(a.n, b, a.m)
	if err != api.OK {
		a.t.Fatalf("an operation of %q and %q modulo %q returned %d", a.n, b, a.m, err)
	}
	return value{a.t, a.m, n}
}

func (a value) add(b value) value   { return a.apply(modular.Add, b.n) }
func (a value) sub(b value) value   { return a.apply(modular.Sub, b.n) }
func (a value) mul(b value) value   { return a.apply(modular.Mul, b.n) }
func (a value) exp(e api.Nat) value { return a.apply(modular.Exp, e) }

// equal checks that two sides of a law are equal.
func equal(t *testing.T, law string, a, b value) {
	t.Helper()
	if a.n != b.n {
		t.Errorf("%s fails: %q and %q modulo %q", law, a.n, b.n, a.m)
	}
}

// triples calls f with numbers and a modulus that is not 0.
func triples(t *testing.T, seed int64, f func(a, b, c value)) {
	l := samples(seed, 30)
	for i, m := range l {
		for j := i % 4; j < len(l); j += 4 {
			if m != "" {
				f(value{t, m, l[j]}, value{t, m, l[(3*i+j)%len(l)]}, value{t, m, l[(i+7*j)%len(l)]})
			}
		}
	}
}

func TestP3_3Laws(t *testing.T) {
	triples(t, 50, func(a, b, c value) {
		equal(t, "a + b = b + a", a.add(b), b.add(a))
		equal(t, "a b = b a", a.mul(b), b.mul(a))
		equal(t, "(a + b) + c = a + (b + c)", a.add(b).add(c), a.add(b.add(c)))
		equal(t, "(a b) c = a (b c)", a.mul(b).mul(c), a.mul(b.mul(c)))
		equal(t, "a (b + c) = a b + a c", a.mul(b.add(c)), a.mul(b).add(a.mul(c)))
		equal(t, "(a + b) - b = a", a.add(b).sub(b), a.exp(natural.Of(1)))
		equal(t, "(a - b) + b = a", a.sub(b).add(b), a.exp(natural.Of(1)))
	})
}

func TestP3_3Exponents(t *testing.T) {
	triples(t, 51, func(a, b, c value) {
		// Exponents of at most 63 bytes have sums and products of at most 128 bytes.
		d, e := b.n[:min(63, len(b.n))], c.n[:min(63, len(c.n))]
		sum, _ := natural.Add(d, e)
		product, _ := natural.Mul(d, e)
		equal(t, "a^(d + e) = a^d a^e", a.exp(sum), a.exp(d).mul(a.exp(e)))
		equal(t, "a^(d e) = (a^d)^e", a.exp(product), a.exp(d).exp(e))
	})
}

func TestP3_3Inverse(t *testing.T) {
	triples(t, 52, func(a, _, _ value) {
		x, err := modular.Inverse(a.n, a.m)
		g, _ := natural.Gcd(a.n, a.m)
		if (err == api.OK) != (g == natural.Of(1)) {
			t.Fatalf("Inverse(%q, %q) returned %d", a.n, a.m, err)
		}
		if err != api.OK {
			return
		}
		back, err := modular.Inverse(x, a.m)
		if err != api.OK {
			t.Fatalf("Inverse(%q, %q) returned %d", x, a.m, err)
		}
		one := a.exp("")
		equal(t, "the inverse of the inverse of a is a", value{t, a.m, back}, a.mul(one))
		equal(t, "a times its inverse is 1", a.mul(value{t, a.m, x}), one)
	})
}

// jacobi returns a Jacobi symbol, which must exist.
func jacobi(t *testing.T, a, n api.Nat) int {
	t.Helper()
	s, err := modular.Jacobi(a, n)
	if err != api.OK {
		t.Fatalf("Jacobi(%q, %q) returned %d", a, n, err)
	}
	return s
}

func TestP3_3Jacobi(t *testing.T) {
	var l []api.Nat
	for _, a := range samples(53, 60) {
		if len(a) <= 64 {
			l = append(l, a)
		}
	}
	for i, n := range l {
		if !natural.Bit(n, 0) {
			continue
		}
		for j, a := range l {
			b := l[(3*i+5*j)%len(l)]
			product, _ := natural.Mul(a, b)
			if jacobi(t, product, n) != jacobi(t, a, n)*jacobi(t, b, n) {
				t.Errorf("Jacobi is not multiplicative for %q, %q and %q", a, b, n)
			}
			if natural.Bit(b, 0) {
				product, _ := natural.Mul(n, b)
				if jacobi(t, a, product) != jacobi(t, a, n)*jacobi(t, a, b) {
					t.Errorf("Jacobi is not multiplicative for %q over %q and %q", a, n, b)
				}
			}
			square, _ := natural.Mul(a, a)
			if g, _ := natural.Gcd(a, n); g == natural.Of(1) && jacobi(t, square, n) != 1 {
				t.Errorf("Jacobi of the square of %q over %q is not 1", a, n)
			}
		}
	}
}
