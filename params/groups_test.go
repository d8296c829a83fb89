package params_test

import (
	"fmt"
	"math"
	"slices"
	"testing"

	"domino/api"
	"domino/coins"
	"domino/natural"
	"domino/params"
)

// mainIs checks Main.
func mainIs(t *testing.T, bits int, tape api.Tape, g api.Group, rest api.Tape, err api.Errno) {
	t.Helper()
	got, next, e := params.Main(bits, tape)
	if got != g || !same(next, rest) || e != err {
		t.Errorf("Main(%d) of the seed %q and At %d is %q, At %d, %d; want %q, At %d, %d", bits, tape.Seed, tape.At, got, next.At, e, g, rest.At, err)
	}
}

// mainFails expects an error of Main.
func mainFails(t *testing.T, bits int, tape api.Tape, err api.Errno) {
	t.Helper()
	mainIs(t, bits, tape, api.Group{}, api.Tape{}, err)
}

// wholeIs checks Whole.
func wholeIs(t *testing.T, bits int, tape api.Tape, p, q api.Nat, rest api.Tape, err api.Errno) {
	t.Helper()
	var g api.Group
	if err == api.OK {
		g.Modulus = fromBig(toBig("").Mul(toBig(p), toBig(q)))
	}
	got, d, next, e := params.Whole(bits, tape)
	if got != g || d != (api.Trapdoor{P: p, Q: q}) || !same(next, rest) || e != err {
		t.Errorf("Whole(%d) of the seed %q and At %d is %q, %q, At %d, %d; want %q, %q and %q, At %d, %d", bits, tape.Seed, tape.At, got, d, next.At, e, g, p, q, rest.At, err)
	}
}

// wholeFails expects an error of Whole.
func wholeFails(t *testing.T, bits int, tape api.Tape, err api.Errno) {
	t.Helper()
	wholeIs(t, bits, tape, "", "", api.Tape{}, err)
}

// groupOf returns the group with a prime order and the least modulus.
func groupOf(t *testing.T, order api.Nat) api.Group {
	q, _ := natural.Small(order)
	for k := uint64(2); k <= 65536; k += 2 {
		if isPrime(k*q + 1) {
			return api.Group{Modulus: of(k*q + 1), Order: order}
		}
	}
	t.Fatalf("there is no modulus for %d", q)
	return api.Group{}
}

func TestP11_2MainExamples(t *testing.T) {
	for _, c := range []struct {
		bits          int
		values        []api.Nat
		modulus, q, n uint64
	}{
		{2, numbers(1), 7, 3, 1}, {3, numbers(3), 29, 7, 1}, {2, numbers(0), 5, 2, 1}, {3, numbers(0, 2, 1, 0), 11, 5, 3}, {4, numbers(3), 23, 11, 1},
		{4, numbers(5), 53, 13, 1}, {5, numbers(1), 103, 17, 1}, {5, numbers(3), 191, 19, 1}, {5, numbers(15), 311, 31, 1}, {6, numbers(15), 283, 47, 1},
	} {
		tape := coins.Values(c.values...)
		mainIs(t, c.bits, tape, api.Group{Modulus: of(c.modulus), Order: of(c.q)}, behind(tape, int(c.n)), api.OK)
	}
}

func TestP11_2MainOfEachOrder(t *testing.T) {
	for bits := 2; bits <= 13; bits++ {
		for c := range uint64(1) << (bits - 1) {
			q := 1<<(bits-1) + c
			tape := coins.Values(of(c), of(1<<40))
			if isPrime(q) {
				mainIs(t, bits, tape, groupOf(t, of(q)), behind(tape, 1), api.OK)
			} else {
				mainFails(t, bits, tape, api.ErrRange)
			}
		}
	}
}

func TestP11_2MainOfSeeds(t *testing.T) {
	prime := draws()[0]
	for bits := 2; bits <= 40; bits++ {
		for i := range 20 {
			tape := api.Tape{Seed: fmt.Sprint("a seed ", i), At: i}
			want := prime.wanted(bits, tape)
			mainIs(t, bits, tape, groupOf(t, want.p), want.rest, api.OK)
		}
	}
}

func TestP11_2MainErrors(t *testing.T) {
	for _, bits := range []int{math.MinInt, -1, 0, 1, 41, 60, 61, 64, math.MaxInt} {
		for _, tape := range []api.Tape{{}, {Seed: "s"}, {Values: numbers(1 << 62)}} {
			mainFails(t, bits, tape, api.ErrRange)
		}
		for _, tape := range broken() {
			mainFails(t, bits, tape, api.ErrForm)
		}
	}
	for _, bits := range []int{2, 3, 40} {
		for _, tape := range broken() {
			mainFails(t, bits, tape, api.ErrForm)
		}
		mainFails(t, bits, api.Tape{}, api.ErrCoins)
		mainFails(t, bits, api.Tape{Seed: "s", At: math.MaxInt32}, api.ErrCoins)
		mainFails(t, bits, coins.Values(of(1<<(bits-1))), api.ErrRange)
	}
	mainFails(t, 4, coins.Values(repeated(65536, 0, 3)...), api.ErrPrime)
	mainFails(t, 4, coins.Values(repeated(65535, 0)...), api.ErrCoins)
}

func TestP11_2WholeExamples(t *testing.T) {
	for _, c := range []struct {
		bits   int
		values []api.Nat
		p, q   uint64
		after  int
	}{
		{3, numbers(0, 0, 1), 5, 7, 3}, {3, numbers(0, 1, 9), 5, 7, 2}, {3, numbers(1, 0), 7, 5, 2}, {3, numbers(1, 1, 1, 1, 0, 1), 7, 5, 5},
		{6, numbers(7, 13), 47, 59, 2}, {6, numbers(0, 13, 13, 1, 13, 8, 7, 99), 59, 47, 7},
	} {
		tape := coins.Values(c.values...)
		wholeIs(t, c.bits, tape, of(c.p), of(c.q), behind(tape, c.after), api.OK)
		tape.Seed = "not used"
		wholeIs(t, c.bits, tape, of(c.p), of(c.q), behind(tape, c.after), api.OK)
	}
	tape := api.Tape{Values: numbers(1, 1, 0, 0, 1, 2), At: 2}
	wholeIs(t, 3, tape, of(5), of(7), behind(tape, 3), api.OK)
}

func TestP11_2WholeOfSeeds(t *testing.T) {
	safe := draws()[1]
	for bits := 3; bits <= 32; bits++ {
		for i := range 6 {
			tape := api.Tape{Seed: fmt.Sprint("a seed ", i), At: i}
			first := safe.wanted(bits, tape)
			second := first
			for range 64 {
				if second = safe.wanted(bits, second.rest); second.p != first.p {
					break
				}
			}
			if bits == 4 || bits == 5 {
				// 11 and 23 are the only ones.
				wholeFails(t, bits, tape, api.ErrPrime)
				continue
			}
			wholeIs(t, bits, tape, first.p, second.p, second.rest, api.OK)
		}
	}
	// The greatest modulus has 64 bits.
	coin := uint64(1)<<30 - 1
	var found []uint64
	for ; len(found) < 2; coin-- {
		if _, ok := safe.number(32, coin); ok {
			found = append(found, coin)
		}
	}
	p, _ := safe.number(32, found[0])
	q, _ := safe.number(32, found[1])
	tape := coins.Values(numbers(found...)...)
	wholeIs(t, 32, tape, of(p), of(q), behind(tape, 2), api.OK)
}

func TestP11_2WholeAttempts(t *testing.T) {
	// 64 primes are compared with the first one.
	tape := coins.Values(repeated(64, 0, 1)...)
	wholeIs(t, 3, tape, of(5), of(7), behind(tape, 65), api.OK)
	wholeFails(t, 3, coins.Values(repeated(65, 0, 1)...), api.ErrPrime)
	wholeFails(t, 3, coins.Values(repeated(65, 0)...), api.ErrPrime)
	wholeFails(t, 3, coins.Values(repeated(65, 0, 1000)...), api.ErrPrime)
	wholeFails(t, 3, coins.Values(repeated(64, 0)...), api.ErrCoins)
	wholeFails(t, 3, coins.Values(repeated(64, 0, 1000)...), api.ErrRange)
	// Every prime has attempts of its own: 33 is not prime.
	values := slices.Concat(repeated(65535, 0, 7), repeated(65535, 0, 7), repeated(65535, 0, 13))
	tape = coins.Values(values...)
	wholeIs(t, 6, tape, of(47), of(59), behind(tape, 3*65536), api.OK)
	values = slices.Concat(numbers(7), repeated(65536, 0, 13))
	wholeFails(t, 6, coins.Values(values...), api.ErrPrime)
	wholeFails(t, 6, coins.Values(repeated(65536, 0, 7, 13)...), api.ErrPrime)
}

func TestP11_2WholeErrors(t *testing.T) {
	for _, bits := range []int{math.MinInt, -1, 0, 1, 2, 33, 60, 61, 64, math.MaxInt} {
		for _, tape := range []api.Tape{{}, {Seed: "s"}, {Values: numbers(1 << 62)}} {
			wholeFails(t, bits, tape, api.ErrRange)
		}
		for _, tape := range broken() {
			wholeFails(t, bits, tape, api.ErrForm)
		}
	}
	for _, bits := range []int{3, 4, 32} {
		for _, tape := range broken() {
			wholeFails(t, bits, tape, api.ErrForm)
		}
		wholeFails(t, bits, api.Tape{}, api.ErrCoins)
		wholeFails(t, bits, api.Tape{Seed: "s", At: math.MaxInt32}, api.ErrCoins)
		wholeFails(t, bits, coins.Values(of(1<<(bits-2))), api.ErrRange)
	}
	wholeFails(t, 3, coins.Values(numbers(0)...), api.ErrCoins)
	wholeFails(t, 3, coins.Values(numbers(0, 0)...), api.ErrCoins)
	wholeFails(t, 3, coins.Values(numbers(0, 2)...), api.ErrRange)
	wholeFails(t, 3, coins.Values(numbers(0, 0, 2, 1)...), api.ErrRange)
	wholeFails(t, 3, api.Tape{Seed: "s", At: math.MaxInt32 - 1}, api.ErrCoins)
}

// TestP11_2Memory checks that tapes are not changed, and that results share no memory with them.
func TestP11_2Memory(t *testing.T) {
	values := append(make([]api.Nat, 0, 8), numbers(0, 1, 1, 0)...)
	tape := api.Tape{Values: values, Seed: "s"}
	_, a, _ := params.Main(2, tape)
	_, _, b, _ := params.Whole(3, tape)
	for _, rest := range []api.Tape{a, b} {
		if !slices.Equal(rest.Values, values) {
			t.Errorf("the values behind the coins are %q", rest.Values)
		}
		rest.Values[0] = of(9)
		_ = append(rest.Values, of(9))
	}
	if whole := values[:8]; !slices.Equal(whole, append(numbers(0, 1, 1, 0), "", "", "", "")) {
		t.Errorf("the values became %q", whole)
	}
}
