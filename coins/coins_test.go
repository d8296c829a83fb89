package coins_test

import (
	"fmt"
	"math/big"
	"math/rand"
	"slices"
	"strings"
	"testing"

	"domino/api"
	"domino/coins"
	"domino/integer"
	"domino/natural"
)

// of returns the canonical string of a small number.
func of(n uint64) api.Nat { return natural.Of(n) }

// power returns 2^k + d.
func power(k uint, d int64) api.Nat {
	n := new(big.Int).Lsh(big.NewInt(1), k)
	return api.Nat(n.Add(n, big.NewInt(d)).Bytes())
}

// numbers returns a list of small numbers.
func numbers(l ...uint64) []api.Nat {
	var out []api.Nat
	for _, n := range l {
		out = append(out, of(n))
	}
	return out
}

// invalid returns strings that are not canonical.
func invalid() []api.Nat {
	return []api.Nat{"\x00", "\x00\x05", "\x00" + power(1015, 0), api.Nat(strings.Repeat("\x01", 129)), power(1024, 0), api.Nat(strings.Repeat("\xff", 200))}
}

// broken returns tapes that are not well-formed.
func broken() []api.Tape {
	l := []api.Tape{{At: -1}, {At: 2147483648}, {Seed: "s", At: -1}, {Seed: "s", At: 2147483648}, {Values: numbers(1, 2), At: -1}, {Seed: "s", At: -1 << 31}}
	for _, x := range invalid() {
		l = append(l, api.Tape{Values: []api.Nat{x}}, api.Tape{Values: []api.Nat{of(1), of(2), x}, Seed: "s"}, api.Tape{Values: []api.Nat{x, of(1)}, At: 1}, api.Tape{Values: []api.Nat{x}, Seed: "s", At: 7})
	}
	return l
}

// same reports whether two tapes are the same value.
func same(a, b api.Tape) bool {
	return slices.Equal(a.Values, b.Values) && a.Seed == b.Seed && a.At == b.At
}

// behind returns the tape t after n coins.
func behind(t api.Tape, n int) api.Tape {
	return api.Tape{Values: slices.Clone(t.Values), Seed: t.Seed, At: t.At + n}
}

// result is what Below returns, and what Signed returns with its integer; Many has many of them.
type result struct {
	x    api.Int
	tape api.Tape
	err  api.Errno
}

func below(t api.Tape, n api.Nat) result {
	x, next, err := coins.Below(t, n)
	return result{api.Int{Abs: x}, next, err}
}

func signed(t api.Tape, n api.Nat) result {
	x, next, err := coins.Signed(t, n)
	return result{x, next, err}
}

// expect compares a result with the wanted one; beside an error all is the zero value.
func expect(t *testing.T, what string, got, want result) {
	t.Helper()
	if got.x != want.x || !same(got.tape, want.tape) || got.err != want.err {
		t.Errorf("%s is %#v, want %#v", what, got, want)
	}
}

// fail compares a result with an error.
func fail(t *testing.T, what string, got result, err api.Errno) {
	t.Helper()
	expect(t, what, got, result{err: err})
}

// failMany calls Many, which must return an error.
func failMany(t *testing.T, tape api.Tape, n api.Nat, count int, want api.Errno) {
	t.Helper()
	l, next, err := coins.Many(tape, n, count)
	if len(l) != 0 || !same(next, api.Tape{}) || err != want {
		t.Errorf("Many(%#v, %q, %d) is %q, %#v, %d; want the error %d", tape, n, count, l, next, err, want)
	}
}

func TestP6_1Values(t *testing.T) {
	for _, l := range append([][]api.Nat{nil, {}, numbers(0), numbers(5, 9, 0), numbers(1, 1, 1, 1), {power(1024, -1)}}, invalid()) {
		if got := coins.Values(l...); !same(got, api.Tape{Values: l}) {
			t.Errorf("the tape with the values %q is %#v", l, got)
		}
	}
	l := append(make([]api.Nat, 0, 10), numbers(5, 9)...)
	tape := coins.Values(l...)
	l[0] = of(7)
	tape.Values = append(tape.Values, of(8))
	if l = l[:3]; tape.Values[0] != of(5) || l[2] != "" {
		t.Errorf("the tape shares its values with the arguments: %q, %q", tape.Values, l)
	}
}

func TestP6_1Seed(t *testing.T) {
	for _, s := range []string{"", "a", "a seed", "\x00", strings.Repeat("s", 1000)} {
		if got := coins.Seed(s); !same(got, api.Tape{Seed: s}) {
			t.Errorf("the tape with the seed %q is %#v", s, got)
		}
	}
}

func TestP6_1Left(t *testing.T) {
	three := numbers(5, 9, 0)
	for _, c := range []struct {
		tape api.Tape
		left int
	}{
		{api.Tape{}, 0}, {api.Tape{Values: []api.Nat{}}, 0}, {api.Tape{Seed: "s"}, 0}, {api.Tape{At: 1}, 0},
		{api.Tape{Values: three}, 3}, {api.Tape{Values: three, Seed: "s"}, 3},
		{api.Tape{Values: three, At: 1}, 2}, {api.Tape{Values: three, At: 2}, 1}, {api.Tape{Values: three, At: 3}, 0},
		{api.Tape{Values: three, At: 4}, 0}, {api.Tape{Values: three, At: 2147483647}, 0},
		{api.Tape{Values: []api.Nat{power(1024, -1)}}, 1},
	} {
		if got := coins.Left(c.tape); got != c.left {
			t.Errorf("Left of %#v is %d, want %d", c.tape, got, c.left)
		}
	}
	for _, tape := range broken() {
		if got := coins.Left(tape); got != 0 {
			t.Errorf("Left of %#v is %d, want 0", tape, got)
		}
	}
}

func TestP6_2BelowOfValues(t *testing.T) {
	max := power(1024, -1)
	for _, c := range []struct {
		l    []api.Nat
		at   int
		seed string
		n    api.Nat
		err  api.Errno
	}{
		{numbers(5, 9), 0, "", of(10), api.OK},
		{numbers(5, 9), 0, "", of(6), api.OK},
		{numbers(5, 9), 0, "", of(5), api.ErrRange},
		{numbers(5, 9), 0, "", of(4), api.ErrRange},
		{numbers(5, 9), 1, "", of(10), api.OK},
		{numbers(5, 9), 1, "", of(9), api.ErrRange},
		{numbers(5, 9), 2, "", of(10), api.ErrCoins},
		{numbers(5, 9), 3, "", of(10), api.ErrCoins},
		{numbers(5, 9), 2147483646, "", of(10), api.ErrCoins},
		{numbers(5, 9), 2147483647, "", of(10), api.ErrCoins},
		{numbers(5, 9), 2147483647, "s", of(10), api.ErrCoins},
		{numbers(5, 9), 0, "s", of(10), api.OK},
		{numbers(5, 9), 1, "s", of(9), api.ErrRange},
		{numbers(0), 0, "", of(1), api.OK},
		{numbers(1), 0, "s", of(1), api.ErrRange},
		{numbers(1000), 0, "", of(1), api.ErrRange},
		{numbers(255, 256), 0, "", of(256), api.OK},
		{numbers(255, 256), 1, "", of(256), api.ErrRange},
		{[]api.Nat{power(1024, -2)}, 0, "", max, api.OK},
		{[]api.Nat{max}, 0, "", max, api.ErrRange},
		{[]api.Nat{of(1), max}, 0, "", of(2), api.OK},
		{nil, 0, "", of(1), api.ErrCoins},
		{nil, 2147483647, "", of(1), api.ErrCoins},
		{nil, 2147483647, "s", of(1), api.ErrCoins},
	} {
		tape := api.Tape{Values: c.l, Seed: c.seed, At: c.at}
		want := result{err: c.err}
		if c.err == api.OK {
			want = result{api.Int{Abs: c.l[c.at]}, behind(tape, 1), api.OK}
		}
		expect(t, fmt.Sprintf("a coin below %q", c.n), below(tape, c.n), want)
	}
}

func TestP6_2Forms(t *testing.T) {
	for _, tape := range broken() {
		for _, n := range append(invalid(), "", of(1), of(10), power(1024, -1)) {
			fail(t, "Below of a broken tape", below(tape, n), api.ErrForm)
			fail(t, "Signed of a broken tape", signed(tape, n), api.ErrForm)
			failMany(t, tape, n, 0, api.ErrForm)
			failMany(t, tape, n, -1, api.ErrForm)
		}
	}
	for _, tape := range []api.Tape{{}, {At: 2147483647}, {Values: numbers(5, 9)}, {Seed: "s"}} {
		for _, n := range invalid() {
			fail(t, "Below of a broken bound", below(tape, n), api.ErrForm)
			fail(t, "Signed of a broken bound", signed(tape, n), api.ErrForm)
			failMany(t, tape, n, 0, api.ErrForm)
			failMany(t, tape, n, 4097, api.ErrForm)
		}
		fail(t, "Below of the bound 0", below(tape, ""), api.ErrZero)
		fail(t, "Signed of the bound 0", signed(tape, ""), api.ErrZero)
		failMany(t, tape, "", 0, api.ErrZero)
		failMany(t, tape, "", 4097, api.ErrZero)
	}
}

func TestP6_2Signed(t *testing.T) {
	for bound := range int64(20) {
		for x := range 2*bound + 5 {
			tape := api.Tape{Values: numbers(99, uint64(x), 3), Seed: "s", At: 1}
			want := result{integer.Of(x - (bound - 1)), behind(tape, 1), api.OK}
			switch {
			case bound == 0:
				want = result{err: api.ErrZero}
			case x >= 2*bound-1:
				want = result{err: api.ErrRange}
			}
			expect(t, "Signed", signed(tape, of(uint64(bound))), want)
		}
	}
	fail(t, "Signed without coins", signed(api.Tape{}, of(3)), api.ErrCoins)
	fail(t, "Signed of a tape that was used up", signed(api.Tape{Values: numbers(1), At: 1}, of(3)), api.ErrCoins)
	fail(t, "Signed at the end", signed(api.Tape{Seed: "s", At: 2147483647}, of(3)), api.ErrCoins)
}

func TestP6_2SignedOfLongBounds(t *testing.T) {
	for _, d := range []int64{-2, -1, 0} {
		bound := power(1023, d)
		for _, c := range []struct {
			x   api.Nat
			abs api.Nat
			neg bool
		}{{"", power(1023, d-1), true}, {of(1), power(1023, d-2), true}, {power(1023, d-2), of(1), true}, {power(1023, d-1), "", false}, {power(1023, d), of(1), false}, {power(1024, 2*d-2), power(1023, d-1), false}} {
			tape := coins.Values(c.x)
			expect(t, "Signed", signed(tape, bound), result{api.Int{Neg: c.neg, Abs: c.abs}, behind(tape, 1), api.OK})
		}
		if d < 0 {
			fail(t, "Signed", signed(coins.Values(power(1024, 2*d-1)), bound), api.ErrRange)
		}
		fail(t, "Signed", signed(api.Tape{}, bound), api.ErrCoins)
	}
	for _, bound := range []api.Nat{power(1023, 1), power(1023, 2), power(1024, -1)} {
		for _, tape := range []api.Tape{{}, {Values: numbers(0)}, {Seed: "s"}, {At: 2147483647}} {
			fail(t, "Signed of a bound that is too long", signed(tape, bound), api.ErrLong)
		}
	}
}

func TestP6_2Many(t *testing.T) {
	tape := coins.Values(numbers(5, 9, 0, 3)...)
	for count := range 5 {
		l, next, err := coins.Many(tape, of(10), count)
		if !slices.Equal(l, tape.Values[:count]) || !same(next, behind(tape, count)) || err != api.OK {
			t.Errorf("%d coins are %q, %#v, %d", count, l, next, err)
		}
	}
	failMany(t, tape, of(10), 5, api.ErrCoins)
	failMany(t, tape, of(9), 4, api.ErrRange)
	failMany(t, tape, of(9), 5, api.ErrRange)
	failMany(t, behind(tape, 2), of(9), 5, api.ErrCoins)
	l, next, err := coins.Many(behind(tape, 2), of(4), 2)
	if !slices.Equal(l, numbers(0, 3)) || !same(next, behind(tape, 4)) || err != api.OK {
		t.Errorf("two coins behind two are %q, %#v, %d", l, next, err)
	}
}

func TestP6_2ManyCounts(t *testing.T) {
	for _, tape := range []api.Tape{{}, {At: 2147483647}, {Values: numbers(5, 9)}, {Seed: "s"}} {
		for _, count := range []int{-1, -4096, 4097, 1 << 30, -1 << 31} {
			failMany(t, tape, of(3), count, api.ErrMany)
		}
		l, next, err := coins.Many(tape, of(3), 0)
		if len(l) != 0 || !same(next, tape) || err != api.OK {
			t.Errorf("no coins of %#v are %q, %#v, %d", tape, l, next, err)
		}
	}
	r := rand.New(rand.NewSource(62))
	var values []api.Nat
	for range 4097 {
		values = append(values, of(r.Uint64()))
	}
	l, next, err := coins.Many(coins.Values(values...), power(64, 0), 4096)
	if !slices.Equal(l, values[:4096]) || !same(next, api.Tape{Values: values, At: 4096}) || err != api.OK {
		t.Errorf("4096 coins end at %d, %d", next.At, err)
	}
}

// TestP6_2Memory checks that arguments are not changed, and that results share no memory with them.
func TestP6_2Memory(t *testing.T) {
	tape := api.Tape{Values: append(make([]api.Nat, 0, 8), numbers(1, 2, 3)...), Seed: "s"}
	_, a, _ := coins.Below(tape, of(10))
	_, b, _ := coins.Signed(tape, of(10))
	l, c, _ := coins.Many(tape, of(10), 2)
	_, d, _ := coins.Many(tape, of(10), 0)
	for _, next := range []api.Tape{a, b, c, d} {
		next.Values[0] = of(7)
		_ = append(next.Values, of(8))
	}
	l[0] = of(9)
	_ = append(l, of(9))
	if whole := tape.Values[:8]; !slices.Equal(whole, append(numbers(1, 2, 3), "", "", "", "", "")) {
		t.Errorf("the values of the argument became %q", whole)
	}
	if a.Values[1] != of(2) || c.Values[2] != of(3) {
		t.Errorf("the tapes share memory: %q, %q", a.Values, c.Values)
	}
}
