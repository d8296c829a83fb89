package certificate_test

import (
	"math/big"
	"math/rand"
	"slices"
	"testing"

	"domino/api"
	"domino/certificate"
	"domino/natural"
)

// link is a step whose factors are primes instead of indices.
type link struct {
	prime, base *big.Int
	factors     []*big.Int
}

// strong is the strong test of layer 4, for an odd n.
func strong(n *big.Int, base int64) bool {
	one := big.NewInt(1)
	last := new(big.Int).Sub(n, one)
	s := last.TrailingZeroBits()
	x := new(big.Int).Exp(big.NewInt(base), new(big.Int).Rsh(last, s), n)
	passes := x.Sign() == 0 || x.Cmp(one) == 0
	for range s {
		passes = passes || x.Cmp(last) == 0
		x = new(big.Int).Mod(new(big.Int).Mul(x, x), n)
	}
	return passes
}

// probable reports whether n is a probable prime.
func probable(n *big.Int) bool {
	passes := n.Cmp(big.NewInt(65536)) >= 0 && n.Bit(0) == 1
	for _, b := range []int64{2, 3, 5, 7, 11, 13, 17, 19, 23, 29, 31, 37} {
		passes = passes && strong(n, b)
	}
	return passes
}

// split returns the factors of n - 1 that are used, and their product.
func split(n *big.Int) ([]*big.Int, *big.Int) {
	rest := new(big.Int).Sub(n, big.NewInt(1))
	product := big.NewInt(1)
	var factors []*big.Int
	for p := int64(2); p < 65536; p += 1 + p%2 {
		f := big.NewInt(p)
		divides := false
		for new(big.Int).Mod(rest, f).Sign() == 0 {
			rest.Div(rest, f)
			product.Mul(product, f)
			divides = true
		}
		if divides {
			factors = append(factors, f)
		}
	}
	if probable(rest) {
		factors = append(factors, rest)
		product.Mul(product, rest)
	}
	return factors, product
}

// chain returns the certificate of a prime as links, as the definition says; nothing for ErrNone.
func chain(n *big.Int) []link {
	if n.Cmp(big.NewInt(65536)) < 0 {
		return []link{{n, new(big.Int), nil}}
	}
	factors, product := split(n)
	if product.Mul(product, product).Cmp(n) <= 0 || !isPrime(n) {
		return nil
	}
	var out []link
	for _, f := range factors {
		own := chain(f)
		if own == nil {
			return nil
		}
		for _, l := range own {
			if !slices.ContainsFunc(out, func(m link) bool { return m.prime.Cmp(l.prime) == 0 }) {
				out = append(out, l)
			}
		}
	}
	return append(out, link{n, base(n, factors), factors})
}

// base returns the least base of the step of a prime, which has powers other than 1 for all factors.
func base(n *big.Int, factors []*big.Int) *big.Int {
	less := new(big.Int).Sub(n, big.NewInt(1))
	for a := big.NewInt(2); ; a.Add(a, big.NewInt(1)) {
		if !slices.ContainsFunc(factors, func(f *big.Int) bool {
			return new(big.Int).Exp(a, new(big.Int).Div(less, f), n).Cmp(big.NewInt(1)) == 0
		}) {
			return a
		}
	}
}

// certificateOf returns the certificate with the given links.
func certificateOf(links []link) api.Certificate {
	var c api.Certificate
	for _, l := range links {
		s := api.Step{Prime: fromBig(l.prime), Base: fromBig(l.base)}
		for _, f := range l.factors {
			s.Factors = append(s.Factors, slices.IndexFunc(c.Steps, func(s api.Step) bool { return s.Prime == fromBig(f) }))
		}
		slices.Sort(s.Factors)
		c.Steps = append(c.Steps, s)
	}
	return c
}

// same reports whether two certificates have the same steps.
func same(a, b api.Certificate) bool {
	return slices.EqualFunc(a.Steps, b.Steps, func(s, t api.Step) bool {
		return s.Prime == t.Prime && s.Base == t.Base && slices.Equal(s.Factors, t.Factors)
	})
}

// expectFind checks Find of a number.
func expectFind(t *testing.T, n *big.Int) api.Errno {
	t.Helper()
	want, wantErr := api.Certificate{}, api.ErrPrime
	switch {
	case probable(n) || n.Cmp(big.NewInt(65536)) < 0 && isPrime(n):
		want = certificateOf(chain(n))
		if wantErr = api.OK; len(want.Steps) == 0 {
			wantErr = api.ErrNone
		}
	}
	c, err := certificate.Find(fromBig(n))
	if !same(c, want) || err != wantErr {
		t.Errorf("Find(%d) is %v and %d, want %v and %d", n, c, err, want, wantErr)
	}
	return err
}

// nextPrime returns the least prime that is not below n.
func nextPrime(n *big.Int) *big.Int {
	for n = new(big.Int).Set(n); !isPrime(n); n.Add(n, big.NewInt(1)) {
	}
	return n
}

// primes returns primes of different lengths: any, and those whose predecessors are products of small numbers and of one or two primes.
func primes(r *rand.Rand, count int) []*big.Int {
	var l []*big.Int
	for range count {
		n := nextPrime(new(big.Int).Rand(r, new(big.Int).Lsh(big.NewInt(1), uint(2+r.Intn(60)))))
		product := new(big.Int).Mul(n, nextPrime(big.NewInt(65536+r.Int63n(1<<20))))
		l = append(l, n, above(r, n, 17), above(r, product, 20+r.Intn(100)))
	}
	return l
}

// above returns a prime k n + 1 for a product k of numbers below 65536 that has at least so many bits.
func above(r *rand.Rand, n *big.Int, bits int) *big.Int {
	one := big.NewInt(1)
	for {
		k := big.NewInt(2 + r.Int63n(500))
		for k.BitLen() < bits {
			k.Mul(k, big.NewInt(1+r.Int63n(65535)))
		}
		if k.Mul(k, n).Add(k, one); isPrime(k) {
			return k
		}
	}
}

// decimal returns the number with a decimal text.
func decimal(s string) *big.Int {
	n, _ := new(big.Int).SetString(s, 10)
	return n
}

// pseudoprimes returns the least composite numbers that pass the strong test for the first twelve and thirteen primes.
func pseudoprimes() []*big.Int {
	return []*big.Int{decimal("318665857834031151167461"), decimal("3317044064679887385961981")}
}

func TestP7_2Examples(t *testing.T) {
	for _, c := range []struct {
		n     uint64
		steps []api.Step
	}{
		{2, small(2)}, {13, small(13)}, {65521, small(65521)},
		{65537, []api.Step{step(2, 0), step(65537, 3, 0)}},
		{1000003, append(small(2, 3, 167, 499), step(166667, 2, 0, 2, 3), step(1000003, 2, 0, 1, 4))},
	} {
		got, err := certificate.Find(natural.Of(c.n))
		if !same(got, of(c.steps...)) || err != api.OK {
			t.Errorf("Find(%d) is %v and %d, want %v", c.n, got, err, c.steps)
		}
	}
}

func TestP7_2Small(t *testing.T) {
	for n := range int64(2000) {
		expectFind(t, big.NewInt(n))
	}
	for n := int64(65400); n < 66000; n++ {
		expectFind(t, big.NewInt(n))
	}
}

func TestP7_2Random(t *testing.T) {
	r := rand.New(rand.NewSource(72))
	count := map[api.Errno]int{}
	unordered, unused := 0, 0
	for _, n := range primes(r, 60) {
		err := expectFind(t, n)
		count[err]++
		if err != api.OK {
			continue
		}
		l := chain(n)
		less := new(big.Int).Sub(n, big.NewInt(1))
		if _, product := split(n); product.Cmp(less) < 0 && len(l) > 1 {
			unused++
		}
		for _, m := range l {
			inOrder := func(a, b *big.Int) int { return indexOf(l, a) - indexOf(l, b) }
			if !slices.IsSortedFunc(m.factors, inOrder) {
				unordered++
			}
		}
	}
	if count[api.OK] < 50 || count[api.ErrNone] < 10 || unordered < 10 || unused < 10 {
		t.Errorf("the results are %v, with %d steps whose factors are not in the order of their steps, and %d composite rests", count, unordered, unused)
	}
}

// indexOf returns the index of the link of a prime.
func indexOf(l []link, p *big.Int) int {
	return slices.IndexFunc(l, func(m link) bool { return m.prime.Cmp(p) == 0 })
}

func TestP7_2Errors(t *testing.T) {
	for _, a := range invalid() {
		if c, err := certificate.Find(a); len(c.Steps) > 0 || err != api.ErrForm {
			t.Errorf("Find(%q) is %v and %d, want ErrForm", a, c, err)
		}
	}
	one := big.NewInt(1)
	limit := new(big.Int).Lsh(one, 1024)
	q := nextPrime(big.NewInt(65537))
	for _, c := range []struct {
		n    *big.Int
		want api.Errno
	}{
		{new(big.Int), api.ErrPrime}, {one, api.ErrPrime}, {big.NewInt(65536), api.ErrPrime}, {big.NewInt(65535), api.ErrPrime}, {big.NewInt(1 << 40), api.ErrPrime},
		{new(big.Int).Mul(q, q), api.ErrPrime}, {big.NewInt(3825123056546413051), api.ErrPrime}, {big.NewInt(321197185), api.ErrPrime},
		{new(big.Int).Sub(limit, one), api.ErrPrime}, {new(big.Int).Sub(limit, big.NewInt(2)), api.ErrPrime},
		{nextPrime(new(big.Int).Lsh(one, 1023)), api.ErrNone},
	} {
		if got := expectFind(t, c.n); got != c.want {
			t.Errorf("Find(%d) returns %d, want %d", c.n, got, c.want)
		}
	}
}

// TestP7_2Pseudoprimes checks composite numbers that are probable primes, also as factors that would not be needed.
func TestP7_2Pseudoprimes(t *testing.T) {
	r := rand.New(rand.NewSource(73))
	for _, n := range pseudoprimes() {
		if !probable(n) || isPrime(n) {
			t.Fatalf("%d is not what it should be", n)
		}
		for _, m := range []*big.Int{n, above(r, n, 4), above(r, n, 20), above(r, new(big.Int).Mul(n, n), 3), above(r, new(big.Int).Lsh(n, 200), 3)} {
			want := api.ErrNone
			if factors, _ := split(m); isPrime(m) && factors[len(factors)-1].Cmp(n) != 0 {
				continue
			}
			if got := expectFind(t, m); got != want {
				t.Errorf("Find(%d) returns %d, want ErrNone", m, got)
			}
		}
	}
}

// TestP7_2FactorWithoutCertificate checks primes whose greatest factor has no certificate.
func TestP7_2FactorWithoutCertificate(t *testing.T) {
	r := rand.New(rand.NewSource(74))
	p := nextPrime(new(big.Int).Lsh(big.NewInt(1), 90))
	for expectFind(t, p) != api.ErrNone {
		p = nextPrime(new(big.Int).Add(p, big.NewInt(1)))
	}
	for _, bits := range []int{1, 10, 30} {
		if n := above(r, p, bits); expectFind(t, n) != api.ErrNone {
			t.Errorf("Find(%d) has a certificate", n)
		}
	}
}

func TestP7_2Long(t *testing.T) {
	r := rand.New(rand.NewSource(75))
	for _, c := range []struct {
		e uint
		k *big.Int
	}{{1000, big.NewInt(1 << 23)}, {600, new(big.Int).Lsh(big.NewInt(1), 423)}} {
		if n := proth(c.e, c.k); expectFind(t, n) != api.OK {
			t.Errorf("Find(%d) has no certificate", n)
		}
	}
	n := nextPrime(big.NewInt(1 << 30))
	for n.BitLen() < 480 {
		n = above(r, n, 4)
	}
	if expectFind(t, n) != api.OK || len(chain(n)) < 40 {
		t.Errorf("the certificate of %d has %d steps", n, len(chain(n)))
	}
}

func TestP7_2Prime(t *testing.T) {
	if p := certificate.Prime(api.Certificate{}); p != "" {
		t.Errorf("Prime without steps is %q", p)
	}
	for _, a := range append(invalid(), "", "\x01", "\x07", fromBig(decimal("1000000000000000000000"))) {
		if p := certificate.Prime(of(step(3, 0), api.Step{Prime: a, Base: "\x00", Factors: []int{-1}})); p != a {
			t.Errorf("Prime is %q, want %q", p, a)
		}
	}
}

func TestP7_2Memory(t *testing.T) {
	n := natural.Of(1000003)
	a, _ := certificate.Find(n)
	b, _ := certificate.Find(n)
	for i := range a.Steps {
		for k := range a.Steps[i].Factors {
			a.Steps[i].Factors[k] = 9
		}
		_ = append(a.Steps[i].Factors, 7)
		a.Steps[i].Prime = "\x01"
	}
	if c, _ := certificate.Find(n); !same(b, c) || certificate.Check(b) != api.OK {
		t.Errorf("another certificate became %v", b)
	}
}

func TestP7_3Found(t *testing.T) {
	r := rand.New(rand.NewSource(76))
	for _, n := range append(primes(r, 30), big.NewInt(2), big.NewInt(3), big.NewInt(65521), big.NewInt(65537), proth(1000, big.NewInt(1<<23))) {
		c, err := certificate.Find(fromBig(n))
		if err != api.OK {
			continue
		}
		if got := certificate.Check(c); got != api.OK || certificate.Prime(c) != fromBig(n) {
			t.Errorf("Check of the certificate of %d is %d, and Prime %q", n, got, certificate.Prime(c))
		}
		for i, s := range c.Steps {
			if !isPrime(toBig(s.Prime)) {
				t.Errorf("the certificate of %d has the step %q", n, s.Prime)
			}
			expectNoSmallerBase(t, c.Steps[:i+1])
		}
	}
}

// expectNoSmallerBase checks that the last of some steps is not correct with a smaller base.
func expectNoSmallerBase(t *testing.T, steps []api.Step) {
	t.Helper()
	steps = slices.Clone(steps)
	last := &steps[len(steps)-1]
	most, _ := natural.Small(last.Base)
	for a := uint64(2); a < most; a++ {
		last.Base = natural.Of(a)
		if err := certificate.Check(api.Certificate{Steps: steps}); err != api.ErrPrime {
			t.Errorf("Check of the certificate of %q with the base %d is %d", last.Prime, a, err)
		}
	}
}

// TestP7_3Accepted checks that what Check accepts is prime, for certificates that were not made by Find.
func TestP7_3Accepted(t *testing.T) {
	accepted := 0
	for p := uint64(3); p < 700; p++ {
		for base := uint64(2); base < min(p, 12); base++ {
			for _, factors := range [][]int{{0}, {1}, {2}, {3}, {0, 1}, {0, 2}, {1, 2}, {0, 3}, {0, 4}, {1, 3}, {0, 1, 2}} {
				if certificate.Check(of(append(small(2, 3, 5, 7, 11), step(p, base, factors...))...)) != api.OK {
					continue
				}
				accepted++
				if !isPrime(new(big.Int).SetUint64(p)) {
					t.Errorf("%d is accepted with the base %d and the factors %v", p, base, factors)
				}
			}
		}
	}
	if accepted < 100 {
		t.Errorf("only %d certificates are accepted", accepted)
	}
}
