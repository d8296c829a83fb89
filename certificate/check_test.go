package certificate_test

import (
	"math/big"
	"math/rand"
	"slices"
	"strings"
	"testing"

	"domino/api"
	"domino/certificate"
	"domino/natural"
)

// toBig returns the number of a canonical string.
func toBig(a api.Nat) *big.Int { return new(big.Int).SetBytes([]byte(a)) }

// fromBig returns the canonical string of a number of at most 128 bytes.
func fromBig(n *big.Int) api.Nat { return api.Nat(n.Bytes()) }

// step returns the step with a prime, a base and factors.
func step(p, base uint64, factors ...int) api.Step {
	return api.Step{Prime: natural.Of(p), Base: natural.Of(base), Factors: factors}
}

// of returns the certificate with the given steps.
func of(steps ...api.Step) api.Certificate { return api.Certificate{Steps: steps} }

// small returns steps without factors.
func small(primes ...uint64) []api.Step {
	var l []api.Step
	for _, p := range primes {
		l = append(l, step(p, 0))
	}
	return l
}

// invalid returns strings that are not canonical.
func invalid() []api.Nat {
	return []api.Nat{"\x00", "\x00\x03", "\x00\x00", "\x00" + api.Nat(strings.Repeat("\xff", 127)), api.Nat(strings.Repeat("\xff", 129)), api.Nat("\x03" + strings.Repeat("\x00", 128))}
}

// isPrime decides by an independent method.
func isPrime(n *big.Int) bool { return n.ProbablyPrime(4) }

// canonical is the definition of layer 1.
func canonical(a api.Nat) bool { return len(a) <= 128 && !strings.HasPrefix(string(a), "\x00") }

// formed reports whether a certificate is well-formed, word for word as the definition says.
func formed(c api.Certificate) bool {
	for at, s := range c.Steps {
		if !canonical(s.Prime) || toBig(s.Prime).Cmp(big.NewInt(2)) < 0 {
			return false
		}
		without := len(s.Factors) == 0 && s.Base == ""
		base := canonical(s.Base) && toBig(s.Base).Cmp(big.NewInt(2)) >= 0 && toBig(s.Base).Cmp(toBig(s.Prime)) < 0
		with := len(s.Factors) > 0 && base && slices.IsSorted(s.Factors)
		for i, k := range s.Factors {
			with = with && 0 <= k && k < at && !slices.Contains(s.Factors[:i], k)
		}
		if !without && !with {
			return false
		}
	}
	return len(c.Steps) > 0
}

// right reports whether a step of a well-formed certificate is correct, as the definition says, where all primes of its factors are prime.
func right(s api.Step, steps []api.Step) bool {
	p, one := toBig(s.Prime), big.NewInt(1)
	if len(s.Factors) == 0 {
		return p.Cmp(big.NewInt(65536)) < 0 && isPrime(p)
	}
	less := new(big.Int).Sub(p, one)
	greatest := big.NewInt(1)
	for _, k := range s.Factors {
		f := toBig(steps[k].Prime)
		if new(big.Int).Mod(less, f).Sign() != 0 {
			return false
		}
		for power := f; new(big.Int).Mod(less, power).Sign() == 0; power = new(big.Int).Mul(power, f) {
			// The least common multiple counts a factor once, also if it is that of two steps.
			common := new(big.Int).GCD(nil, nil, greatest, power)
			greatest = new(big.Int).Div(new(big.Int).Mul(greatest, power), common)
		}
		x := new(big.Int).Exp(toBig(s.Base), new(big.Int).Div(less, f), p)
		if x.Sign() == 0 || new(big.Int).GCD(nil, nil, x.Sub(x, one), p).Cmp(one) != 0 {
			return false
		}
	}
	return new(big.Int).Mul(greatest, greatest).Cmp(p) > 0 && new(big.Int).Exp(toBig(s.Base), less, p).Cmp(one) == 0
}

// verdict returns what Check has to return.
func verdict(c api.Certificate) api.Errno {
	if !formed(c) {
		return api.ErrForm
	}
	if len(c.Steps) > 256 {
		return api.ErrMany
	}
	for _, s := range c.Steps {
		if !right(s, c.Steps) {
			return api.ErrPrime
		}
	}
	return api.OK
}

// expect checks Check of a certificate.
func expect(t *testing.T, what string, c api.Certificate, want api.Errno) {
	t.Helper()
	if got := certificate.Check(c); got != want {
		t.Errorf("Check of %s is %d, want %d: %v", what, got, want, c)
	}
	if own := verdict(c); own != want {
		t.Errorf("the definition says %d of %s, want %d", own, what, want)
	}
}

func TestP7_1Examples(t *testing.T) {
	for _, c := range []struct {
		what  string
		steps []api.Step
		want  api.Errno
	}{
		{"no steps", nil, api.ErrForm},
		{"2", small(2), api.OK},
		{"the greatest small prime", small(65521), api.OK},
		{"a small composite number", small(65535), api.ErrPrime},
		{"a composite number before a prime", small(4, 3), api.ErrPrime},
		{"a composite number behind a prime", small(3, 4), api.ErrPrime},
		{"65536 without factors", small(65536), api.ErrPrime},
		{"65537 without factors", small(65537), api.ErrPrime},
		{"65537 by 2", []api.Step{step(2, 0), step(65537, 3, 0)}, api.OK},
		{"65537 by 2 with a greater base", []api.Step{step(2, 0), step(65537, 5, 0)}, api.OK},
		{"65537 by 2 with the greatest base", []api.Step{step(2, 0), step(65537, 65536, 0)}, api.ErrPrime},
		{"65537 with a base of an order that is too small", []api.Step{step(2, 0), step(65537, 2, 0)}, api.ErrPrime},
		{"91, of which 3^45 is 27", []api.Step{step(2, 0), step(3, 0), step(5, 0), step(91, 3, 0, 1, 2)}, api.ErrPrime},
		{"91 by 3 and 5", []api.Step{step(3, 0), step(5, 0), step(91, 3, 0, 1)}, api.ErrPrime},
		{"163 by the powers of 3", []api.Step{step(3, 0), step(163, 2, 0)}, api.OK},
		{"163 by 2", []api.Step{step(2, 0), step(163, 2, 0)}, api.ErrPrime},
		{"31 by 5, which is less than its root", []api.Step{step(5, 0), step(31, 2, 0)}, api.ErrPrime},
		{"31 by 5 twice", []api.Step{step(5, 0), step(5, 0), step(31, 2, 0, 1)}, api.ErrPrime},
		{"11 by 5 twice", []api.Step{step(5, 0), step(5, 0), step(11, 2, 0, 1)}, api.OK},
		{"a prime twice", []api.Step{step(5, 0), step(2, 0), step(11, 2, 0), step(11, 0), step(23, 5, 1, 2, 3)}, api.OK},
		{"31 by 15, which is not prime", []api.Step{step(15, 0), step(31, 3, 0)}, api.ErrPrime},
		{"31 by 30, which is not prime", []api.Step{step(30, 0), step(31, 3, 0)}, api.ErrPrime},
		{"an even number", []api.Step{step(3, 0), step(4, 3, 0)}, api.ErrPrime},
		{"3 by 2", []api.Step{step(2, 0), step(3, 2, 0)}, api.OK},
		{"a base that has a factor in common", []api.Step{step(2, 0), step(7, 0), step(15, 3, 0, 1)}, api.ErrPrime},
	} {
		expect(t, c.what, of(c.steps...), c.want)
	}
}

func TestP7_1Form(t *testing.T) {
	for _, c := range []struct {
		what string
		last api.Step
		want api.Errno
	}{
		{"no prime", step(0, 0), api.ErrForm},
		{"1", step(1, 0), api.ErrForm},
		{"1 with factors", step(1, 2, 0), api.ErrForm},
		{"0 with factors", step(0, 2, 0), api.ErrForm},
		{"2 with factors", step(2, 2, 0), api.ErrForm},
		{"a base without factors", step(7, 3), api.ErrForm},
		{"a base 1 without factors", step(7, 1), api.ErrForm},
		{"no base", step(31, 0, 0, 1), api.ErrForm},
		{"the base 1", step(31, 1, 0, 1), api.ErrForm},
		{"the base 30", step(31, 30, 0, 1), api.ErrPrime},
		{"the base 31", step(31, 31, 0, 1), api.ErrForm},
		{"the base 34", step(31, 34, 0, 1), api.ErrForm},
		{"the step itself as a factor", step(31, 3, 0, 1, 3), api.ErrForm},
		{"a factor behind the end", step(31, 3, 0, 1, 4), api.ErrForm},
		{"a huge index", step(31, 3, 0, 1, 1<<62), api.ErrForm},
		{"a negative index", step(31, 3, -1, 0, 1), api.ErrForm},
		{"the least index", step(31, 3, -1<<63, 0, 1), api.ErrForm},
		{"a factor twice", step(31, 3, 0, 1, 1), api.ErrForm},
		{"factors in descending order", step(31, 3, 1, 0), api.ErrForm},
		{"two of three factors", step(31, 3, 0, 1), api.OK},
		{"three factors", step(31, 3, 0, 1, 2), api.OK},
	} {
		expect(t, c.what, of(append(small(2, 3, 5), c.last)...), c.want)
		// The form comes before all other errors.
		want := c.want
		if want == api.OK {
			want = api.ErrPrime
		}
		expect(t, c.what+" behind a composite number", of(append(small(2, 3, 15), c.last)...), want)
	}
	for _, a := range invalid() {
		expect(t, "a prime that is not canonical", of(api.Step{Prime: a}), api.ErrForm)
		expect(t, "a prime that is not canonical", of(step(2, 0), api.Step{Prime: a, Base: "\x03", Factors: []int{0}}), api.ErrForm)
		expect(t, "a base that is not canonical", of(step(2, 0), api.Step{Prime: "\x11", Base: a, Factors: []int{0}}), api.ErrForm)
		expect(t, "a base that is not canonical", of(api.Step{Prime: "\x11", Base: a}), api.ErrForm)
		expect(t, "a form that is wrong behind a composite number", of(step(9, 0), api.Step{Prime: a}), api.ErrForm)
	}
	expect(t, "empty factors", of(api.Step{Prime: "\x07", Factors: []int{}}), api.OK)
}

func TestP7_1Many(t *testing.T) {
	steps := func(n int, p uint64) []api.Step { return slices.Repeat(small(p), n) }
	expect(t, "256 steps", of(steps(256, 2)...), api.OK)
	expect(t, "257 steps", of(steps(257, 2)...), api.ErrMany)
	expect(t, "257 steps that are not correct", of(steps(257, 4)...), api.ErrMany)
	expect(t, "257 steps, the last one not well-formed", of(append(steps(256, 2), step(1, 0))...), api.ErrForm)
	expect(t, "300 steps, the first one not well-formed", of(append(small(0), steps(299, 2)...)...), api.ErrForm)
	all := make([]int, 255)
	for i := range all {
		all[i] = i
	}
	expect(t, "255 factors", of(append(steps(255, 2), step(65537, 3, all...))...), api.OK)
}

// TestP7_1AllSmall checks all steps with factors among the first primes for the first numbers.
func TestP7_1AllSmall(t *testing.T) {
	factors := []uint64{2, 3, 5, 7, 11, 13}
	accepted := 0
	for p := uint64(0); p < 50; p++ {
		for set := range 1 << len(factors) {
			var indices []int
			for i := range factors {
				if set>>i&1 == 1 {
					indices = append(indices, i)
				}
			}
			for base := range p + 2 {
				c := of(append(small(factors...), step(p, base, indices...))...)
				got := certificate.Check(c)
				if want := verdict(c); got != want {
					t.Fatalf("Check of %d with the base %d and the factors %v is %d, want %d", p, base, indices, got, want)
				}
				if got == api.OK {
					accepted++
				}
			}
		}
	}
	if accepted < 100 {
		t.Errorf("only %d certificates are correct", accepted)
	}
}

// TestP7_1Changed checks certificates that were made and then changed in one place.
func TestP7_1Changed(t *testing.T) {
	r := rand.New(rand.NewSource(71))
	count := map[api.Errno]int{}
	for _, n := range primes(r, 60) {
		c, err := certificate.Find(fromBig(n))
		if err != api.OK {
			continue
		}
		for range 20 {
			d := changed(r, c)
			got := certificate.Check(d)
			if want := verdict(d); got != want {
				t.Fatalf("Check(%v) is %d, want %d", d, got, want)
			}
			count[got]++
		}
	}
	if count[api.OK] < 20 || count[api.ErrForm] < 20 || count[api.ErrPrime] < 20 {
		t.Errorf("the results are %v", count)
	}
}

// changed returns a copy of c that differs in one place.
func changed(r *rand.Rand, c api.Certificate) api.Certificate {
	var steps []api.Step
	for _, s := range c.Steps {
		s.Factors = slices.Clone(s.Factors)
		steps = append(steps, s)
	}
	i := r.Intn(len(steps))
	if r.Intn(2) == 0 {
		i = len(steps) - 1
	}
	s := &steps[i]
	switch other := natural.Of(uint64(r.Intn(40))); r.Intn(7) {
	case 0:
		s.Prime = other
	case 1, 2:
		s.Base = other
	case 3:
		s.Factors = append(s.Factors, r.Intn(len(steps)+2)-1)
	case 4:
		if k := len(s.Factors); k > 0 {
			at := r.Intn(k)
			s.Factors = slices.Delete(s.Factors, at, at+1)
		}
	case 5:
		if k := len(s.Factors); k > 0 {
			s.Factors[r.Intn(k)] = r.Intn(len(steps))
		}
	case 6:
		steps = slices.Delete(steps, i, i+1)
	}
	return api.Certificate{Steps: steps}
}

// TestP7_1Long checks numbers of 128 bytes, for which the square of the factors is too long.
func TestP7_1Long(t *testing.T) {
	n := proth(1000, big.NewInt(1<<23))
	c := of(step(2, 0), api.Step{Prime: fromBig(n), Base: leastBase(n, big.NewInt(2)), Factors: []int{0}})
	expect(t, "a prime of 128 bytes", c, api.OK)
	c.Steps[1].Base = fromBig(new(big.Int).Sub(n, big.NewInt(1)))
	expect(t, "a prime of 128 bytes with the base n - 1", c, api.ErrPrime)
	c.Steps[1].Base = fromBig(n)
	expect(t, "a prime of 128 bytes with the base n", c, api.ErrForm)
	c.Steps[1] = api.Step{Prime: fromBig(n)}
	expect(t, "a prime of 128 bytes without factors", c, api.ErrPrime)
	greatest := api.Nat(strings.Repeat("\xff", 128))
	expect(t, "the greatest number", of(step(2, 0), api.Step{Prime: greatest, Base: "\x02", Factors: []int{0}}), api.ErrPrime)
	expect(t, "the greatest number by 3", of(step(3, 0), api.Step{Prime: greatest, Base: "\x02", Factors: []int{0}}), api.ErrPrime)
	// Here the square of the factor is not greater than the prime.
	n = proth(500, new(big.Int).Lsh(big.NewInt(1), 523))
	expect(t, "a prime of 128 bytes with few factors", of(step(2, 0), api.Step{Prime: fromBig(n), Base: leastBase(n, big.NewInt(2)), Factors: []int{0}}), api.ErrPrime)
}

// proth returns the least prime k 2^e + 1 with a k greater than the given one.
func proth(e uint, k *big.Int) *big.Int {
	one := big.NewInt(1)
	for k = new(big.Int).Add(k, one); ; k.Add(k, one) {
		n := new(big.Int).Lsh(k, e)
		if n.Add(n, one); isPrime(n) {
			return n
		}
	}
}

// leastBase returns the least base for which the power of the prime n for the factor f is not 1.
func leastBase(n, f *big.Int) api.Nat {
	e := new(big.Int).Div(new(big.Int).Sub(n, big.NewInt(1)), f)
	for a := int64(2); ; a++ {
		if new(big.Int).Exp(big.NewInt(a), e, n).Cmp(big.NewInt(1)) != 0 {
			return fromBig(big.NewInt(a))
		}
	}
}

func TestP7_1Memory(t *testing.T) {
	factors := append(make([]int, 0, 8), 0, 1, 2)
	c := of(append(make([]api.Step, 0, 8), append(small(2, 3, 5), step(31, 3, factors...))...)...)
	c.Steps[3].Factors = factors
	certificate.Check(c)
	certificate.Prime(c)
	if !slices.Equal(factors[:8], []int{0, 1, 2, 0, 0, 0, 0, 0}) || c.Steps[3].Prime != natural.Of(31) || c.Steps[:5][4].Prime != "" {
		t.Errorf("the certificate became %v", c)
	}
}
