package rsagroup_test

import (
	"fmt"
	"math"
	"math/big"
	"slices"
	"testing"

	"domino/api"
	"domino/coins"
	"domino/natural"
	"domino/rsagroup"
)

// element checks Has.
func element(t *testing.T, g api.Group, x api.Nat, want bool) {
	t.Helper()
	if got := rsagroup.Has(g, x); got != want {
		t.Errorf("Has of %q and %q is %t", g, x, got)
	}
}

// unit reports whether x and n have no common divisor.
func unit(n, x api.Nat) bool {
	return new(big.Int).GCD(nil, nil, toBig(n), toBig(x)).Cmp(big.NewInt(1)) == 0
}

// has is the definition of an element of a group with the order 0.
func has(n, x uint64) bool {
	return n%2 == 1 && n > 8 && 0 < x && x < n && unit(of(n), of(x))
}

func TestP10_1Has(t *testing.T) {
	for n := uint64(0); n < 130; n++ {
		for x := uint64(0); x < 140; x++ {
			element(t, group(n), of(x), has(n, x))
			element(t, api.Group{Modulus: of(n), Order: of(1)}, of(x), false)
			element(t, api.Group{Modulus: of(n), Order: of(15)}, of(x), false)
		}
	}
	large := api.Group{Modulus: power(1024, -1)} // divisible by 3
	element(t, large, of(1), true)
	element(t, large, of(2), true)
	element(t, large, of(3), false)
	element(t, large, power(1024, -2), true)
	element(t, large, power(1024, -1), false)
	element(t, large, "", false)
	element(t, api.Group{Modulus: power(1023, 0)}, of(1), false)
	for _, x := range invalid() {
		element(t, group(77), x, false)
		element(t, api.Group{Modulus: x}, of(1), false)
		element(t, api.Group{Modulus: of(77), Order: x}, of(1), false)
		element(t, api.Group{Modulus: x, Order: x}, x, false)
	}
	element(t, group(77), "\x00\x04", false)
	element(t, api.Group{Modulus: "\x00\x4d"}, of(4), false)
}

// same reports whether two tapes are the same value.
func same(a, b api.Tape) bool {
	return slices.Equal(a.Values, b.Values) && a.Seed == b.Seed && a.At == b.At
}

// drawn checks Square, which returns no number and no tape beside an error.
func drawn(t *testing.T, g api.Group, tape api.Tape, want api.Nat, rest api.Tape, err api.Errno) {
	t.Helper()
	got, next, e := rsagroup.Square(g, tape)
	if got != want || !same(next, rest) || e != err {
		t.Errorf("Square of %q and %#v is %q, %#v, %d; want %q, %#v, %d", g, tape, got, next, e, want, rest, err)
	}
}

// failed checks that Square returns an error.
func failed(t *testing.T, g api.Group, tape api.Tape, err api.Errno) {
	t.Helper()
	drawn(t, g, tape, "", api.Tape{}, err)
}

// zeros returns a list of so many zeros with other numbers behind them.
func zeros(count int, l ...uint64) []api.Nat {
	out := make([]api.Nat, count)
	for _, x := range l {
		out = append(out, of(x))
	}
	return out
}

func TestP10_3SquareOfValues(t *testing.T) {
	g := group(77)
	for _, c := range []struct {
		values []api.Nat
		at     int
		want   uint64
		after  int
	}{
		{zeros(0, 5), 0, 25, 1}, {zeros(0, 76), 0, 1, 1}, {zeros(0, 75, 3), 0, 4, 1}, {zeros(1, 14, 76, 5), 0, 1, 3}, {zeros(0, 7, 11, 33, 70, 10), 0, 23, 5},
		{zeros(0, 5, 6, 7), 1, 36, 2}, {zeros(0, 5, 0, 7, 8, 9), 1, 64, 4}, {zeros(63, 9), 0, 4, 64}, {zeros(100, 9), 37, 4, 101},
		{zeros(0, 99, 4), 1, 16, 2},
	} {
		tape := api.Tape{Values: c.values, At: c.at}
		drawn(t, g, tape, of(c.want), api.Tape{Values: c.values, At: c.after}, api.OK)
		// A seed behind the values is not used.
		drawn(t, g, api.Tape{Values: c.values, At: c.at, Seed: "s"}, of(c.want), api.Tape{Values: c.values, At: c.after, Seed: "s"}, api.OK)
	}
	drawn(t, group(9), coins.Values(of(6), of(8)), of(1), api.Tape{Values: zeros(0, 6, 8), At: 2}, api.OK)
	x := power(1023, 6)
	n := api.Group{Modulus: power(1024, -1)}
	square := new(big.Int).Mul(toBig(x), toBig(x))
	if rsagroup.Has(n, x) {
		drawn(t, n, coins.Values(x), fromBig(square.Mod(square, toBig(n.Modulus))), api.Tape{Values: []api.Nat{x}, At: 1}, api.OK)
	} else {
		t.Errorf("%q is no element", x)
	}
}

func TestP10_3SquareOfSeeds(t *testing.T) {
	for _, g := range []api.Group{group(77), group(35), group(15015), group(9), {Modulus: times(safeBefore(64), safeBefore(63))}, {Modulus: power(1024, -1)}} {
		for i := range 30 {
			tape := api.Tape{Seed: fmt.Sprint("seed ", i), At: i * i}
			rest, coin := tape, api.Nat("")
			for !unit(g.Modulus, coin) {
				var err api.Errno
				if coin, rest, err = coins.Below(rest, g.Modulus); err != api.OK {
					t.Fatalf("there is no coin: %d", err)
				}
			}
			square := new(big.Int).Mul(toBig(coin), toBig(coin))
			drawn(t, g, tape, fromBig(square.Mod(square, toBig(g.Modulus))), rest, api.OK)
		}
	}
}

func TestP10_3SquareErrors(t *testing.T) {
	g := group(77)
	// The error of a coin, which may come behind others.
	failed(t, g, api.Tape{}, api.ErrCoins)
	failed(t, g, coins.Values(zeros(5)...), api.ErrCoins)
	failed(t, g, api.Tape{Values: zeros(0, 5), At: 1}, api.ErrCoins)
	failed(t, g, api.Tape{Seed: "s", At: math.MaxInt32}, api.ErrCoins)
	failed(t, g, coins.Values(of(77)), api.ErrRange)
	failed(t, g, coins.Values(of(0), of(14), of(77)), api.ErrRange)
	failed(t, g, coins.Values(zeros(63, 77)...), api.ErrRange)
	// At most 64 coins are drawn.
	failed(t, g, coins.Values(zeros(64, 5)...), api.ErrCoins)
	failed(t, g, coins.Values(zeros(64, 77)...), api.ErrCoins)
	failed(t, g, api.Tape{Values: zeros(64), Seed: "s"}, api.ErrCoins)
	failed(t, g, api.Tape{Values: zeros(65, 5), At: 1}, api.ErrCoins)
	failed(t, g, api.Tape{Values: zeros(100, 5), At: 36}, api.ErrCoins)
	for _, bad := range []api.Group{{}, group(7), group(8), group(78), {Modulus: of(77), Order: of(15)}, {Modulus: power(1000, 0)}} {
		failed(t, bad, coins.Values(of(5)), api.ErrGroup)
		failed(t, bad, api.Tape{}, api.ErrGroup)
		failed(t, bad, coins.Values(of(100)), api.ErrGroup)
		failed(t, bad, api.Tape{At: -1}, api.ErrForm)
	}
	for _, x := range invalid() {
		for _, tape := range []api.Tape{{}, coins.Values(of(5)), coins.Seed("s"), {At: -1}} {
			failed(t, api.Group{Modulus: x}, tape, api.ErrForm)
			failed(t, api.Group{Modulus: of(77), Order: x}, tape, api.ErrForm)
			failed(t, api.Group{Modulus: of(78), Order: x}, tape, api.ErrForm)
		}
		for _, either := range []api.Group{g, group(78)} {
			failed(t, either, coins.Values(of(5), x), api.ErrForm)
			failed(t, either, coins.Values(x, of(5)), api.ErrForm)
			failed(t, either, api.Tape{Values: []api.Nat{x, of(5)}, At: 1}, api.ErrForm)
			failed(t, either, api.Tape{Values: []api.Nat{x}, At: 7, Seed: "s"}, api.ErrForm)
		}
	}
	for _, at := range []int{-1, math.MinInt, math.MaxInt32 + 1, math.MaxInt} {
		failed(t, g, api.Tape{Values: zeros(0, 5), At: at}, api.ErrForm)
		failed(t, g, api.Tape{Seed: "s", At: at}, api.ErrForm)
	}
}

func TestP10_3SquareSharesNoMemory(t *testing.T) {
	values := append(make([]api.Nat, 0, 10), zeros(1, 5, 6)...)
	_, rest, err := rsagroup.Square(group(77), api.Tape{Values: values})
	if err != api.OK {
		t.Fatalf("Square returned %d", err)
	}
	values[1] = of(9)
	rest.Values = append(rest.Values, of(8))
	rest.Values[0] = of(3)
	if values = values[:4]; rest.Values[1] != of(5) || values[3] != "" || values[0] != "" {
		t.Errorf("the tape shares its values with the argument: %q, %q", rest.Values, values)
	}
}

// logarithm checks Log; no logarithm is wanted as -1.
func logarithm(t *testing.T, g api.Group, base, x api.Nat, most, want int) {
	t.Helper()
	k, ok := rsagroup.Log(g, base, x, most)
	if ok != (want >= 0) || k != max(0, want) {
		t.Errorf("Log of %q to the base %q in %q, at most %d, is %d, %t; want %d", x, base, g, most, k, ok, want)
	}
}

func TestP10_3LogInSmallGroups(t *testing.T) {
	for _, n := range []uint64{9, 15, 35, 45, 77, 7, 8, 20} {
		for base := range n + 2 {
			var l []api.Nat
			if has(n, base) {
				l = append(l, of(1))
				for y := base; y != 1; y = y * base % n {
					l = append(l, of(y))
				}
			}
			for x := range n + 2 {
				k := slices.Index(l, of(x))
				for _, most := range []int{math.MinInt, -2, -1, 0, 1, k - 1, k, k + 1, 30, 100000, math.MaxInt} {
					want := k
					if k > most {
						want = -1
					}
					logarithm(t, group(n), of(base), of(x), most, want)
				}
				logarithm(t, api.Group{Modulus: of(n), Order: of(15)}, of(base), of(x), 100, -1)
			}
		}
	}
	logarithm(t, group(77), of(4), of(64), 3, 3)
	logarithm(t, group(77), of(4), of(64), 2, -1)
	for _, x := range invalid() {
		logarithm(t, group(77), x, of(1), 10, -1)
		logarithm(t, group(77), of(4), x, 10, -1)
		logarithm(t, group(77), x, x, 10, -1)
		logarithm(t, api.Group{Modulus: x}, of(1), of(1), 10, -1)
		logarithm(t, api.Group{Modulus: of(77), Order: x}, of(1), of(1), 10, -1)
	}
}

func TestP10_3LogIsAtMost65536(t *testing.T) {
	for _, n := range []api.Nat{times(safeBefore(64), safeBefore(63)), power(521, -1)} {
		g, base := api.Group{Modulus: n}, of(9)
		lifted := func(k int64) api.Nat {
			return fromBig(new(big.Int).Exp(toBig(base), big.NewInt(k), toBig(n)))
		}
		for _, most := range []int{65536, 65537, math.MaxInt} {
			logarithm(t, g, base, lifted(65535), most, 65535)
			logarithm(t, g, base, lifted(65536), most, 65536)
			logarithm(t, g, base, lifted(65537), most, -1)
		}
		logarithm(t, g, base, lifted(65536), 65535, -1)
		logarithm(t, g, base, lifted(300), 300, 300)
		logarithm(t, g, base, lifted(300), 299, -1)
	}
}

func TestP10_4Closed(t *testing.T) {
	for _, s := range systems() {
		var elements, squares []uint64
		for x := range s.n {
			if rsagroup.Has(s.g, of(x)) {
				elements = append(elements, x)
				if is, _ := rsagroup.IsSquare(s.g, s.t, of(x)); is {
					squares = append(squares, x)
				}
			}
		}
		for _, a := range elements {
			for _, b := range elements {
				if !slices.Contains(elements, a*b%s.n) {
					t.Errorf("the product of the elements %d and %d modulo %d is none", a, b, s.n)
				}
			}
		}
		for _, a := range squares {
			for _, b := range squares {
				if !slices.Contains(squares, a*b%s.n) {
					t.Errorf("the product of the squares %d and %d modulo %d is none", a, b, s.n)
				}
			}
		}
	}
}

func TestP10_4NumberOfSquares(t *testing.T) {
	for _, s := range systems() {
		squares := s.squares()
		if order, err := rsagroup.Order(s.t); err != api.OK || order != of(uint64(len(squares))) {
			t.Errorf("there are %d squares modulo %d, not %q, %d", len(squares), s.n, order, err)
		}
		for x, count := range squares {
			if is, err := rsagroup.IsSquare(s.g, s.t, of(x)); !is || err != api.OK || count != 4 {
				t.Errorf("%d is the square of %d elements modulo %d: %t, %d", x, count, s.n, is, err)
			}
		}
	}
}

func TestP10_4Generators(t *testing.T) {
	for _, s := range systems() {
		squares := s.squares()
		found := false
		for x := range s.n {
			if is, _ := rsagroup.IsGenerator(s.g, s.t, of(x)); !is {
				continue
			}
			found = true
			logs := map[int]bool{}
			for y := range squares {
				k, ok := rsagroup.Log(s.g, of(x), of(y), len(squares)-1)
				if !ok || s.raised(x, uint64(k)) != y {
					t.Errorf("%d is no power of %d modulo %d: %d, %t", y, x, s.n, k, ok)
				}
				logs[k] = true
			}
			if len(logs) != len(squares) {
				t.Errorf("%d squares are %d powers of %d modulo %d", len(squares), len(logs), x, s.n)
			}
		}
		if !found {
			t.Errorf("there is no generator modulo %d", s.n)
		}
	}
}

func TestP10_4Roots(t *testing.T) {
	for _, s := range systems() {
		squares := s.squares()
		for e := range uint64(40) {
			for x := range squares {
				y, err := rsagroup.Root(s.g, s.t, of(x), of(e))
				if err == api.ErrNone {
					continue
				}
				root, ok := natural.Small(y)
				if is, _ := rsagroup.IsSquare(s.g, s.t, y); err != api.OK || !ok || !is || s.raised(root, e) != x {
					t.Errorf("the root of %d for %d modulo %d is %q, %d", x, e, s.n, y, err)
				}
				for other := range squares {
					if other != root && s.raised(other, e) == x {
						t.Errorf("%d and %d have the same power %d for %d modulo %d", root, other, x, e, s.n)
					}
				}
			}
		}
	}
}

func TestP10_4DrawnSquares(t *testing.T) {
	p, q := safeBefore(64), safeBefore(63)
	g, d := api.Group{Modulus: times(p, q)}, api.Trapdoor{P: p, Q: q}
	tape := coins.Seed("squares")
	for range 20 {
		var x api.Nat
		var err api.Errno
		x, tape, err = rsagroup.Square(g, tape)
		if err != api.OK {
			t.Fatalf("Square returned %d", err)
		}
		if is, err := rsagroup.IsSquare(g, d, x); !is || err != api.OK {
			t.Errorf("%q is no square: %d", x, err)
		}
	}
}
