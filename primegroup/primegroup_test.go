package primegroup_test

import (
	"math/big"
	"strings"
	"testing"

	"domino/api"
	"domino/certificate"
	"domino/natural"
	"domino/primegroup"
)

// of returns the canonical string of a small number.
func of(n uint64) api.Nat { return natural.Of(n) }

// toBig returns the number of a canonical string.
func toBig(a api.Nat) *big.Int { return new(big.Int).SetBytes([]byte(a)) }

// fromBig returns the canonical string of a number of at most 128 bytes.
func fromBig(n *big.Int) api.Nat { return api.Nat(n.Bytes()) }

// power returns 2^k + d.
func power(k uint, d int64) api.Nat {
	n := new(big.Int).Lsh(big.NewInt(1), k)
	return fromBig(n.Add(n, big.NewInt(d)))
}

// group returns the group with a modulus and an order.
func group(p, q uint64) api.Group { return api.Group{Modulus: of(p), Order: of(q)} }

// invalid returns strings that are not canonical.
func invalid() []api.Nat {
	return []api.Nat{"\x00", "\x00\x0b", "\x00\x00", "\x00" + api.Nat(strings.Repeat("\xff", 127)), api.Nat(strings.Repeat("\xff", 129)), api.Nat("\x01" + strings.Repeat("\x00", 128))}
}

// isPrime decides by trial division.
func isPrime(n uint64) bool {
	for d := uint64(2); d*d <= n; d++ {
		if n%d == 0 {
			return false
		}
	}
	return n >= 2
}

// above returns the least valid group whose order is q and whose modulus is at least from, found by an independent method.
func above(q api.Nat, from *big.Int) api.Group {
	order := toBig(q)
	step := new(big.Int).Lsh(order, 1)
	p := new(big.Int).Div(from, step)
	p.Mul(p, step).Add(p, big.NewInt(1))
	for p.Cmp(from) < 0 || !p.ProbablyPrime(10) {
		p.Add(p, step)
	}
	return api.Group{Modulus: fromBig(p), Order: q}
}

// generator returns the least generator of the form x^((p - 1)/q).
func generator(g api.Group) api.Nat {
	p, one := toBig(g.Modulus), big.NewInt(1)
	e := new(big.Int).Div(new(big.Int).Sub(p, one), toBig(g.Order))
	for x := big.NewInt(2); ; x.Add(x, one) {
		if y := new(big.Int).Exp(x, e, p); y.Cmp(one) > 0 {
			return fromBig(y)
		}
	}
}

// wide returns valid groups with moduli of up to 128 bytes, whose primes have certificates.
func wide() []api.Group {
	q := power(61, -1) // a prime
	half := new(big.Int).Lsh(big.NewInt(1), 63)
	return []api.Group{
		{Modulus: power(16, 1), Order: of(2)},
		smooth(of(65537), 46),
		above(q, half),
		smooth(q, 200),
		smooth(q, 950),
	}
}

// smooth returns a valid group of the order q whose modulus is 2^k m q + 1 for a small m.
func smooth(q api.Nat, k uint) api.Group {
	step := new(big.Int).Lsh(toBig(q), k)
	p := new(big.Int).Add(step, big.NewInt(1))
	for !p.ProbablyPrime(10) {
		p.Add(p, step)
	}
	return api.Group{Modulus: fromBig(p), Order: q}
}

// has is the definition of an element.
func has(p, q, x uint64) bool {
	if q == 0 || x == 0 || x >= p {
		return false
	}
	y := uint64(1)
	for range q {
		y = y * x % p
	}
	return y == 1
}

func TestP9_1CheckOfSmallNumbers(t *testing.T) {
	for p := uint64(0); p < 120; p++ {
		for q := uint64(0); q < 130; q++ {
			want := api.OK
			switch {
			case !isPrime(p) || !isPrime(q):
				want = api.ErrPrime
			case (p-1)%q != 0:
				want = api.ErrGroup
			}
			if got := primegroup.Check(group(p, q)); got != want {
				t.Errorf("Check of the modulus %d and the order %d is %d, want %d", p, q, got, want)
			}
		}
	}
}

func TestP9_1Check(t *testing.T) {
	largest := power(64, -59) // the greatest prime of 8 bytes
	for _, c := range []struct {
		p, q api.Nat
		want api.Errno
	}{
		{of(23), of(11), api.OK}, {of(23), of(7), api.ErrGroup}, {of(21), of(5), api.ErrPrime}, {of(3), of(2), api.OK}, {of(2), of(2), api.ErrGroup},
		{largest, of(2), api.OK}, {largest, of(3), api.ErrGroup}, {largest, of(4), api.ErrPrime}, {largest, largest, api.ErrGroup}, {power(64, -1), of(3), api.ErrPrime},
		{"", "", api.ErrPrime}, {of(1), of(2), api.ErrPrime}, {of(23), "", api.ErrPrime}, {of(23), of(1), api.ErrPrime}, {"", of(11), api.ErrPrime},
		// ErrLong comes before ErrPrime and ErrGroup.
		{power(64, 0), of(2), api.ErrLong}, {power(64, 13), of(2), api.ErrLong}, {power(127, -1), of(7), api.ErrLong}, {power(64, 0), "", api.ErrLong}, {power(1024, -1), power(1024, -1), api.ErrLong},
		// An order that is too long for the test: 2^64 is composite, 2^64 + 13 and 2^127 - 1 are prime.
		{of(23), power(64, 0), api.ErrGroup}, {of(23), power(64, 13), api.ErrGroup}, {largest, power(127, -1), api.ErrGroup}, {largest, power(1024, -1), api.ErrGroup},
		{of(21), power(64, 0), api.ErrPrime}, {of(21), power(64, 13), api.ErrPrime}, {"", power(64, 13), api.ErrPrime}, {of(23), power(64, -1), api.ErrPrime},
	} {
		if got := primegroup.Check(api.Group{Modulus: c.p, Order: c.q}); got != c.want {
			t.Errorf("Check of the modulus %q and the order %q is %d, want %d", c.p, c.q, got, c.want)
		}
	}
	for _, x := range invalid() {
		for _, g := range []api.Group{{Modulus: x, Order: of(11)}, {Modulus: of(23), Order: x}, {Modulus: x, Order: x}, {Modulus: power(64, 0), Order: x}, {Modulus: of(21), Order: x}, {Modulus: x}} {
			if got := primegroup.Check(g); got != api.ErrForm {
				t.Errorf("Check of the modulus %q and the order %q is %d, want ErrForm", g.Modulus, g.Order, got)
			}
		}
	}
}

func TestP9_1CheckOfWideGroups(t *testing.T) {
	for _, g := range wide() {
		want := api.OK
		if len(g.Modulus) > 8 {
			want = api.ErrLong
		}
		if got := primegroup.Check(g); got != want {
			t.Errorf("Check of the modulus %q and the order %q is %d, want %d", g.Modulus, g.Order, got, want)
		}
	}
}

// proof returns the certificate of a prime.
func proof(t *testing.T, n api.Nat) api.Certificate {
	t.Helper()
	c, err := certificate.Find(n)
	if err != api.OK {
		t.Fatalf("there is no certificate of %q: %d", n, err)
	}
	return c
}

// certified checks Certified.
func certified(t *testing.T, what string, g api.Group, p, q api.Certificate, want api.Errno) {
	t.Helper()
	if got := primegroup.Certified(g, p, q); got != want {
		t.Errorf("Certified with %s is %d, want %d", what, got, want)
	}
}

func TestP9_1Certified(t *testing.T) {
	for _, g := range append(wide(), group(3, 2), group(23, 11), group(23, 2), group(131267, 2)) {
		p, q := proof(t, g.Modulus), proof(t, g.Order)
		certified(t, "correct certificates", g, p, q, api.OK)
		certified(t, "certificates in the wrong order", g, q, p, api.ErrPrime)
		certified(t, "the certificate of the modulus twice", g, p, p, api.ErrPrime)
		certified(t, "the certificate of the order twice", g, q, q, api.ErrPrime)
		certified(t, "an order that is no divisor", api.Group{Modulus: g.Modulus, Order: g.Modulus}, p, p, api.ErrGroup)
	}
}

func TestP9_1CertifiedErrors(t *testing.T) {
	g := group(23, 11)
	p, q := proof(t, of(23)), proof(t, of(11))
	empty := api.Certificate{}
	wrong := api.Certificate{Steps: []api.Step{{Prime: of(21)}}}
	many := api.Certificate{}
	for range 257 {
		many.Steps = append(many.Steps, api.Step{Prime: of(23)})
	}
	certified(t, "no certificate of the modulus", g, empty, q, api.ErrForm)
	certified(t, "no certificate of the order", g, p, empty, api.ErrForm)
	certified(t, "too many steps for the modulus", g, many, q, api.ErrMany)
	certified(t, "too many steps for the order", g, p, many, api.ErrMany)
	certified(t, "a composite modulus", group(21, 5), wrong, proof(t, of(5)), api.ErrPrime)
	certified(t, "a wrong certificate of the modulus", g, wrong, q, api.ErrPrime)
	certified(t, "a wrong certificate of the order", g, p, wrong, api.ErrPrime)
	// The error of the first certificate comes before that of the second one, and both before the rest.
	certified(t, "a wrong certificate and none", g, wrong, empty, api.ErrPrime)
	certified(t, "no certificate and a wrong one", g, empty, wrong, api.ErrForm)
	certified(t, "too many steps and no certificate", g, many, empty, api.ErrMany)
	certified(t, "a certificate of another number and none", g, q, empty, api.ErrForm)
	certified(t, "certificates of other numbers that are no divisors", g, proof(t, of(29)), proof(t, of(13)), api.ErrPrime)
	certified(t, "a certificate of another modulus", g, proof(t, of(67)), q, api.ErrPrime)
	certified(t, "a certificate of another order", g, p, proof(t, of(2)), api.ErrPrime)
	certified(t, "an order that is no divisor", group(23, 7), p, proof(t, of(7)), api.ErrGroup)
	long := smooth(of(11), 200).Modulus
	certified(t, "a long order", api.Group{Modulus: of(23), Order: long}, p, proof(t, long), api.ErrGroup)
	certified(t, "a modulus 0", group(0, 11), p, q, api.ErrPrime)
	certified(t, "an order 0", group(23, 0), p, q, api.ErrPrime)
	// The prime of the last step counts.
	certified(t, "more steps than necessary", g, api.Certificate{Steps: []api.Step{{Prime: of(11)}, {Prime: of(23)}}}, q, api.OK)
	certified(t, "a step of another prime at the end", g, api.Certificate{Steps: []api.Step{{Prime: of(23)}, {Prime: of(11)}}}, q, api.ErrPrime)
	for _, x := range invalid() {
		certified(t, "a modulus that is not canonical", api.Group{Modulus: x, Order: of(11)}, many, wrong, api.ErrForm)
		certified(t, "an order that is not canonical", api.Group{Modulus: of(23), Order: x}, wrong, many, api.ErrForm)
	}
}

func TestP9_1Elements(t *testing.T) {
	for p := uint64(0); p < 40; p++ {
		for q := uint64(0); q < 45; q++ {
			for x := uint64(0); x < 45; x++ {
				want := has(p, q, x)
				if got := primegroup.Has(group(p, q), of(x)); got != want {
					t.Errorf("Has of the modulus %d, the order %d and %d is %t", p, q, x, got)
				}
				if got := primegroup.IsGenerator(group(p, q), of(x)); got != (want && x != 1) {
					t.Errorf("IsGenerator of the modulus %d, the order %d and %d is %t", p, q, x, got)
				}
			}
		}
	}
}

// element checks Has and IsGenerator.
func element(t *testing.T, g api.Group, x api.Nat, want, generates bool) {
	t.Helper()
	if got := primegroup.Has(g, x); got != want {
		t.Errorf("Has of the modulus %q, the order %q and %q is %t", g.Modulus, g.Order, x, got)
	}
	if got := primegroup.IsGenerator(g, x); got != generates {
		t.Errorf("IsGenerator of the modulus %q, the order %q and %q is %t", g.Modulus, g.Order, x, got)
	}
}

func TestP9_1ElementsOfWideGroups(t *testing.T) {
	for _, g := range wide() {
		x, p := generator(g), toBig(g.Modulus)
		element(t, g, x, true, true)
		element(t, g, of(1), true, false)
		element(t, g, "", false, false)
		element(t, g, g.Modulus, false, false)
		if more := new(big.Int).Add(toBig(x), p); more.BitLen() <= 1024 {
			element(t, g, fromBig(more), false, false)
		}
		last := p.Sub(p, big.NewInt(1))
		element(t, g, fromBig(last), g.Order == of(2), g.Order == of(2))
	}
}

func TestP9_1ElementsAreCanonical(t *testing.T) {
	for _, x := range invalid() {
		element(t, group(23, 11), x, false, false)
		element(t, api.Group{Modulus: x, Order: of(11)}, of(4), false, false)
		element(t, api.Group{Modulus: of(23), Order: x}, of(4), false, false)
		element(t, api.Group{Modulus: x, Order: of(11)}, of(1), false, false)
	}
	element(t, group(23, 11), "\x00\x04", false, false)
	element(t, group(23, 11), "\x00\x01", false, false)
	element(t, api.Group{Modulus: "\x00\x17", Order: of(11)}, of(4), false, false)
	element(t, api.Group{Modulus: of(23), Order: "\x00\x0b"}, of(4), false, false)
}
