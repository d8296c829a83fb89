package rsagroup_test

import (
	"math/big"
	"strings"
	"testing"

	"domino/api"
	"domino/natural"
	"domino/rsagroup"
)

// of returns the canonical string of a small number.
func of(n uint64) api.Nat { return natural.Of(n) }

// toBig returns the number of a canonical string.
func toBig(a api.Nat) *big.Int { return new(big.Int).SetBytes([]byte(a)) }

// fromBig returns the canonical string of a number of at most 128 bytes.
func fromBig(n *big.Int) api.Nat { return api.Nat(n.Bytes()) }

// power returns 2^k + d.
func power(k uint, d int64) api.Nat {
	n := new(big.Int).Lsh(big.NewInt(1), k)
	return fromBig(n.Add(n, big.NewInt(d)))
}

// times returns a product of at most 128 bytes.
func times(a, b api.Nat) api.Nat { return fromBig(new(big.Int).Mul(toBig(a), toBig(b))) }

// group returns the group with a modulus and the order 0.
func group(n uint64) api.Group { return api.Group{Modulus: of(n)} }

// trapdoor returns the trapdoor with two numbers.
func trapdoor(p, q uint64) api.Trapdoor { return api.Trapdoor{P: of(p), Q: of(q)} }

// invalid returns strings that are not canonical.
func invalid() []api.Nat {
	return []api.Nat{"\x00", "\x00\x07", "\x00\x00", "\x00" + api.Nat(strings.Repeat("\xff", 127)), api.Nat(strings.Repeat("\xff", 129)), api.Nat("\x07" + strings.Repeat("\x00", 128))}
}

// isPrime decides by trial division.
func isPrime(n uint64) bool {
	for d := uint64(2); d*d <= n; d++ {
		if n%d == 0 {
			return false
		}
	}
	return n >= 2
}

// safe is the definition of a safe prime.
func safe(n uint64) bool { return n%2 == 1 && isPrime(n) && isPrime((n-1)/2) }

// system is a small group of unknown order with its trapdoor.
type system struct {
	p, q, n uint64
	g       api.Group
	t       api.Trapdoor
}

// systems returns small groups of unknown order.
func systems() []system {
	var out []system
	for _, c := range [][2]uint64{{5, 7}, {7, 5}, {5, 11}, {7, 11}, {11, 7}, {7, 23}, {11, 23}, {47, 5}} {
		p, q := c[0], c[1]
		out = append(out, system{p, q, p * q, group(p * q), trapdoor(p, q)})
	}
	return out
}

// unit reports whether x is an element of the system.
func (s system) unit(x uint64) bool { return 0 < x && x < s.n && x%s.p > 0 && x%s.q > 0 }

// squares returns for each square the number of elements whose square it is.
func (s system) squares() map[uint64]int {
	out := map[uint64]int{}
	for x := range s.n {
		if s.unit(x) {
			out[x*x%s.n]++
		}
	}
	return out
}

// raised returns x^e.
func (s system) raised(x, e uint64) uint64 {
	y := uint64(1)
	for range e {
		y = y * x % s.n
	}
	return y
}

// safeBefore returns the greatest safe prime below 2^bits, found by an independent method.
func safeBefore(bits uint) api.Nat {
	two, p := big.NewInt(2), toBig(power(bits, -1))
	for !p.ProbablyPrime(10) || !new(big.Int).Rsh(p, 1).ProbablyPrime(10) {
		p.Sub(p, two)
	}
	return fromBig(p)
}

// checked checks Check.
func checked(t *testing.T, g api.Group, d api.Trapdoor, want api.Errno) {
	t.Helper()
	if got := rsagroup.Check(g, d); got != want {
		t.Errorf("Check of %q with %q is %d, want %d", g, d, got, want)
	}
}

// ordered checks Order, which returns no number beside an error.
func ordered(t *testing.T, d api.Trapdoor, want api.Nat, err api.Errno) {
	t.Helper()
	if got, e := rsagroup.Order(d); got != want || e != err {
		t.Errorf("Order of %q is %q, %d; want %q, %d", d, got, e, want, err)
	}
}

func TestP10_1CheckOfSmallNumbers(t *testing.T) {
	for p := uint64(0); p < 50; p++ {
		for q := uint64(0); q < 50; q++ {
			n, want := p*q, api.OK
			switch {
			case n%2 == 0 || n <= 8:
				want = api.ErrGroup
			case !safe(p) || !safe(q) || p == q:
				want = api.ErrPrime
			}
			checked(t, group(n), trapdoor(p, q), want)
			for _, m := range []uint64{n + 2, n + 1, 77, 9, 8, 7} {
				switch {
				case m%2 == 0 || m <= 8:
					checked(t, group(m), trapdoor(p, q), api.ErrGroup)
				case m != n:
					checked(t, group(m), trapdoor(p, q), api.ErrArg)
				}
			}
			checked(t, api.Group{Modulus: of(n), Order: of(1)}, trapdoor(p, q), api.ErrGroup)
		}
	}
}

func TestP10_1Check(t *testing.T) {
	large, next := safeBefore(64), safeBefore(63)
	longer, longest := safeBefore(65), safeBefore(512)
	pair := func(p, q api.Nat) (api.Group, api.Trapdoor) {
		return api.Group{Modulus: times(p, q)}, api.Trapdoor{P: p, Q: q}
	}
	for _, c := range []struct {
		p, q api.Nat
		want api.Errno
	}{
		{of(7), of(11), api.OK}, {of(11), of(7), api.OK}, {of(5), of(7), api.OK}, {large, next, api.OK}, {large, of(5), api.OK},
		{of(7), of(7), api.ErrPrime}, {large, large, api.ErrPrime}, {of(7), of(13), api.ErrPrime}, {of(13), of(7), api.ErrPrime}, {of(3), of(7), api.ErrPrime}, {of(1), of(77), api.ErrPrime}, {of(77), of(1), api.ErrPrime}, {large, power(64, -1), api.ErrPrime}, {power(64, -1), large, api.ErrPrime},
		// The errors of both primes come before ErrPrime.
		{longer, of(7), api.ErrLong}, {of(7), longer, api.ErrLong}, {longer, of(13), api.ErrLong}, {of(13), longer, api.ErrLong}, {longer, longer, api.ErrLong}, {longest, longest, api.ErrLong}, {power(64, 1), of(7), api.ErrLong}, {of(1), longest, api.ErrLong},
	} {
		g, d := pair(c.p, c.q)
		checked(t, g, d, c.want)
		// A group of a known order comes first, and then a wrong product.
		checked(t, api.Group{Modulus: g.Modulus, Order: of(15)}, d, api.ErrGroup)
		checked(t, api.Group{Modulus: power(40, 1)}, d, api.ErrArg)
		checked(t, api.Group{Modulus: power(40, 0)}, d, api.ErrGroup)
	}
	// Products that are too long.
	checked(t, group(77), api.Trapdoor{P: power(1024, -1), Q: power(1024, -1)}, api.ErrArg)
	checked(t, api.Group{Modulus: power(1024, -1)}, api.Trapdoor{P: power(1024, -1), Q: of(7)}, api.ErrArg)
	checked(t, api.Group{Modulus: power(1024, -1)}, api.Trapdoor{P: power(1024, -1), Q: of(1)}, api.ErrLong)
	checked(t, api.Group{}, api.Trapdoor{}, api.ErrGroup)
	checked(t, group(77), api.Trapdoor{}, api.ErrArg)
}

func TestP10_1CheckErrForm(t *testing.T) {
	for _, x := range invalid() {
		for _, g := range []api.Group{group(77), group(78), group(79), {Modulus: of(77), Order: of(1)}, {}} {
			checked(t, g, api.Trapdoor{P: x, Q: of(11)}, api.ErrForm)
			checked(t, g, api.Trapdoor{P: of(7), Q: x}, api.ErrForm)
			checked(t, g, api.Trapdoor{P: power(70, 1), Q: x}, api.ErrForm)
		}
		for _, d := range []api.Trapdoor{trapdoor(7, 11), trapdoor(7, 7), {}, {P: x, Q: x}} {
			checked(t, api.Group{Modulus: x}, d, api.ErrForm)
			checked(t, api.Group{Modulus: of(77), Order: x}, d, api.ErrForm)
			checked(t, api.Group{Modulus: of(8), Order: x}, d, api.ErrForm)
		}
	}
	checked(t, api.Group{Modulus: "\x00\x4d"}, trapdoor(7, 11), api.ErrForm)
	checked(t, group(77), api.Trapdoor{P: "\x00\x07", Q: of(11)}, api.ErrForm)
}

func TestP10_1Order(t *testing.T) {
	for p := uint64(0); p < 60; p++ {
		for q := uint64(0); q < 60; q++ {
			if safe(p) && safe(q) && p != q {
				ordered(t, trapdoor(p, q), of((p-1)/2*((q-1)/2)), api.OK)
			} else {
				ordered(t, trapdoor(p, q), "", api.ErrPrime)
			}
		}
	}
	for _, s := range systems() {
		ordered(t, s.t, of(uint64(len(s.squares()))), api.OK)
	}
}

func TestP10_1OrderOfLargeNumbers(t *testing.T) {
	large, next, longer := safeBefore(64), safeBefore(63), safeBefore(65)
	half := func(p api.Nat) api.Nat { return fromBig(new(big.Int).Rsh(toBig(p), 1)) }
	ordered(t, api.Trapdoor{P: large, Q: next}, times(half(large), half(next)), api.OK)
	ordered(t, api.Trapdoor{P: of(5), Q: large}, times(of(2), half(large)), api.OK)
	ordered(t, api.Trapdoor{P: large, Q: large}, "", api.ErrPrime)
	ordered(t, api.Trapdoor{P: large, Q: power(64, -1)}, "", api.ErrPrime)
	for _, q := range []api.Nat{of(7), of(8), "", longer, power(1024, -1)} {
		ordered(t, api.Trapdoor{P: longer, Q: q}, "", api.ErrLong)
		ordered(t, api.Trapdoor{P: q, Q: longer}, "", api.ErrLong)
		ordered(t, api.Trapdoor{P: q, Q: power(64, 0)}, "", api.ErrLong)
	}
	for _, x := range invalid() {
		for _, other := range []api.Nat{of(7), of(8), "", longer, x} {
			ordered(t, api.Trapdoor{P: x, Q: other}, "", api.ErrForm)
			ordered(t, api.Trapdoor{P: other, Q: x}, "", api.ErrForm)
		}
	}
}

// answer is what a question with a trapdoor returns.
type answer struct {
	is  bool
	err api.Errno
}

// asked checks IsSquare and IsGenerator, which return the same errors, and Root for the exponent 1, which takes a number that is no square for an error.
func asked(t *testing.T, g api.Group, d api.Trapdoor, x api.Nat, square, generator bool, err api.Errno) {
	t.Helper()
	is, e := rsagroup.IsSquare(g, d, x)
	if got, want := (answer{is, e}), (answer{square, err}); got != want {
		t.Errorf("IsSquare of %q in %q with %q is %v, want %v", x, g, d, got, want)
	}
	is, e = rsagroup.IsGenerator(g, d, x)
	if got, want := (answer{is, e}), (answer{generator, err}); got != want {
		t.Errorf("IsGenerator of %q in %q with %q is %v, want %v", x, g, d, got, want)
	}
	switch {
	case err != api.OK:
		rooted(t, g, d, x, of(1), "", err)
	case square:
		rooted(t, g, d, x, of(1), x, api.OK)
	default:
		rooted(t, g, d, x, of(1), "", api.ErrArg)
	}
}

// rooted checks Root, which returns no number beside an error.
func rooted(t *testing.T, g api.Group, d api.Trapdoor, x, e, want api.Nat, err api.Errno) {
	t.Helper()
	if got, is := rsagroup.Root(g, d, x, e); got != want || is != err {
		t.Errorf("Root of %q for %q in %q with %q is %q, %d; want %q, %d", x, e, g, d, got, is, want, err)
	}
}

func TestP10_2SquaresOfSmallGroups(t *testing.T) {
	for _, s := range systems() {
		squares := s.squares()
		for x := range s.n + 3 {
			if !s.unit(x) {
				asked(t, s.g, s.t, of(x), false, false, api.ErrGroup)
				continue
			}
			powers := map[uint64]bool{}
			for y := x; !powers[y]; y = y * x % s.n {
				powers[y] = true
			}
			// A square generates the squares if it has as many powers.
			asked(t, s.g, s.t, of(x), squares[x] > 0, squares[x] > 0 && len(powers) == len(squares), api.OK)
		}
	}
}

func TestP10_2RootsInSmallGroups(t *testing.T) {
	for _, s := range systems() {
		squares := s.squares()
		for e := range uint64(60) {
			roots := map[uint64][]uint64{}
			for y := range squares {
				roots[s.raised(y, e)] = append(roots[s.raised(y, e)], y)
			}
			common, _ := natural.Gcd(of(e), of(uint64(len(squares))))
			for x := range s.n + 3 {
				switch {
				case !s.unit(x):
					rooted(t, s.g, s.t, of(x), of(e), "", api.ErrGroup)
				case squares[x] == 0:
					rooted(t, s.g, s.t, of(x), of(e), "", api.ErrArg)
				case common != of(1):
					rooted(t, s.g, s.t, of(x), of(e), "", api.ErrNone)
				case len(roots[x]) == 1:
					rooted(t, s.g, s.t, of(x), of(e), of(roots[x][0]), api.OK)
				default:
					t.Errorf("%d has %d roots for %d modulo %d", x, len(roots[x]), e, s.n)
				}
			}
		}
	}
}

func TestP10_2LargeGroups(t *testing.T) {
	p, q := safeBefore(64), safeBefore(63)
	g, d := api.Group{Modulus: times(p, q)}, api.Trapdoor{P: p, Q: q}
	n, one := toBig(g.Modulus), big.NewInt(1)
	for i := int64(2); i < 60; i++ {
		x := big.NewInt(i * i * i)
		is := big.Jacobi(x, toBig(p)) == 1 && big.Jacobi(x, toBig(q)) == 1
		asked(t, g, d, fromBig(x), is, is, api.OK)
		square := fromBig(x.Mul(x, x).Mod(x, n))
		asked(t, g, d, square, true, true, api.OK)
		for _, e := range []api.Nat{of(1), of(2), of(65537), power(1000, 1), power(1024, -1)} {
			y, err := rsagroup.Root(g, d, square, e)
			if is, _ := rsagroup.IsSquare(g, d, y); err != api.OK || !is || fromBig(new(big.Int).Exp(toBig(y), toBig(e), n)) != square {
				t.Errorf("Root of %q for %q is %q, %d", square, e, y, err)
			}
		}
		half := fromBig(new(big.Int).Rsh(toBig(p), 1))
		rooted(t, g, d, square, half, "", api.ErrNone)
		rooted(t, g, d, square, times(half, power(500, 1)), "", api.ErrNone)
		rooted(t, g, d, square, "", "", api.ErrNone)
	}
	// Squares that are 1 modulo one of the primes generate too few squares.
	for _, c := range [][2]api.Nat{{p, q}, {q, p}} {
		x := new(big.Int).Mul(toBig(c[0]), new(big.Int).ModInverse(toBig(c[0]), toBig(c[1])))
		x.Mul(x, big.NewInt(3)).Add(x, one) // 1 modulo the first prime, 4 modulo the second one
		asked(t, g, d, fromBig(x.Mod(x, n)), true, false, api.OK)
	}
	asked(t, g, d, of(1), true, false, api.OK)
	asked(t, g, d, p, false, false, api.ErrGroup)
	asked(t, g, d, "", false, false, api.ErrGroup)
	asked(t, g, d, g.Modulus, false, false, api.ErrGroup)
	asked(t, g, d, power(1024, -1), false, false, api.ErrGroup)
}

func TestP10_2Errors(t *testing.T) {
	longer := safeBefore(65)
	for _, c := range []struct {
		g    api.Group
		t    api.Trapdoor
		want api.Errno
	}{
		{api.Group{Modulus: of(77), Order: of(15)}, trapdoor(7, 11), api.ErrGroup},
		{group(78), trapdoor(7, 11), api.ErrGroup},
		{group(79), trapdoor(7, 11), api.ErrArg},
		{group(49), trapdoor(7, 7), api.ErrPrime},
		{group(91), trapdoor(7, 13), api.ErrPrime},
		{api.Group{Modulus: times(longer, of(7))}, api.Trapdoor{P: longer, Q: of(7)}, api.ErrLong},
		{api.Group{Modulus: times(longer, of(7))}, api.Trapdoor{P: of(7), Q: longer}, api.ErrLong},
		{api.Group{Modulus: "\x00\x4d"}, trapdoor(7, 11), api.ErrForm},
		{api.Group{Modulus: of(77), Order: "\x00"}, trapdoor(7, 11), api.ErrForm},
		{group(77), api.Trapdoor{P: "\x00\x07", Q: of(11)}, api.ErrForm},
		{group(77), api.Trapdoor{P: of(7), Q: "\x00\x0b"}, api.ErrForm},
	} {
		// The error of Check comes before that of the number: 4 is a square, 2 is none, and 14 and 0 are no elements.
		for _, x := range []api.Nat{of(4), of(2), of(14), ""} {
			asked(t, c.g, c.t, x, false, false, c.want)
			rooted(t, c.g, c.t, x, of(3), "", c.want)
			rooted(t, c.g, c.t, x, "", "", c.want)
		}
		for _, x := range invalid() {
			asked(t, c.g, c.t, x, false, false, api.ErrForm)
			rooted(t, c.g, c.t, of(4), x, "", api.ErrForm)
		}
	}
	for _, x := range invalid() {
		asked(t, group(77), trapdoor(7, 11), x, false, false, api.ErrForm)
		for _, y := range []api.Nat{of(4), of(2), of(14), "", x} {
			rooted(t, group(77), trapdoor(7, 11), y, x, "", api.ErrForm)
		}
	}
	rooted(t, group(77), trapdoor(7, 11), of(4), of(7), of(53), api.OK)
	rooted(t, group(77), trapdoor(7, 11), of(4), of(3), "", api.ErrNone)
	rooted(t, group(77), trapdoor(7, 11), of(4), "", "", api.ErrNone)
	rooted(t, group(77), trapdoor(7, 11), of(2), of(3), "", api.ErrArg)
	rooted(t, group(77), trapdoor(7, 11), of(14), of(3), "", api.ErrGroup)
	asked(t, group(77), trapdoor(7, 11), "\x00\x04", false, false, api.ErrForm)
}
