package coins_test

import (
	"crypto/hmac"
	"crypto/sha256"
	"fmt"
	"math/big"
	"slices"
	"strings"
	"testing"

	"domino/api"
	"domino/coins"
	"domino/integer"
	"domino/natural"
)

// derive returns the coin below n that a seed yields behind at others, and the attempt that found it, as the definition says.
func derive(seed string, at int, n api.Nat) (api.Nat, int) {
	bound := new(big.Int).SetBytes([]byte(n))
	for a := range 256 {
		var bytes []byte
		for b := 0; 8*len(bytes) < bound.BitLen(); b++ {
			m := hmac.New(sha256.New, []byte(seed))
			fmt.Fprintf(m, "%d.%d.%d", at, a, b)
			bytes = m.Sum(bytes)
		}
		x := new(big.Int).SetBytes(bytes[:(bound.BitLen()+7)/8])
		x.Mod(x, new(big.Int).Lsh(big.NewInt(1), uint(bound.BitLen())))
		if x.Cmp(bound) < 0 {
			return api.Nat(x.Bytes()), a
		}
	}
	panic("no coin")
}

// seeds returns seeds of different lengths.
func seeds() []string {
	return []string{"s", "a seed", "\x00", "\xff\xfe", strings.Repeat("k", 64), strings.Repeat("k", 65), strings.Repeat("k", 300)}
}

// bounds returns bounds at powers of 2 and around the lengths of bytes and of blocks.
func bounds() []api.Nat {
	l := numbers(1, 2, 3, 10, 1000, 1000003)
	for _, k := range []uint{2, 7, 8, 9, 15, 16, 63, 64, 247, 248, 255, 256, 257, 264, 511, 512, 513, 767, 768, 769, 1016, 1017, 1023} {
		l = append(l, power(k, -1), power(k, 0), power(k, 1))
	}
	return append(l, power(1024, -1))
}

func TestP6_2BelowOfSeeds(t *testing.T) {
	for _, seed := range seeds() {
		for _, at := range []int{0, 1, 7, 10, 4096, 2147483645, 2147483646} {
			tape := api.Tape{Seed: seed, At: at}
			for _, n := range bounds() {
				x, _ := derive(seed, at, n)
				expect(t, fmt.Sprintf("the coin %d of the seed %q below %q", at, seed, n), below(tape, n), result{api.Int{Abs: x}, behind(tape, 1), api.OK})
			}
			fail(t, "a coin below 0", below(tape, ""), api.ErrZero)
		}
		for _, n := range []api.Nat{of(1), of(1000), power(1024, -1)} {
			fail(t, "the coin behind the last", below(api.Tape{Seed: seed, At: 2147483647}, n), api.ErrCoins)
		}
	}
}

// TestP6_2LateAttempts checks coins that are found after many attempts: for a power of 2 each one fails as often as not.
func TestP6_2LateAttempts(t *testing.T) {
	latest := 0
	for at := range 5000 {
		tape := api.Tape{Seed: "late", At: at}
		x, a := derive("late", at, power(63, 0))
		latest = max(latest, a)
		expect(t, fmt.Sprintf("the coin %d of attempt %d", at, a), below(tape, power(63, 0)), result{api.Int{Abs: x}, behind(tape, 1), api.OK})
	}
	if latest < 10 {
		t.Errorf("no coin needs more than %d attempts", latest)
	}
}

func TestP6_2BelowOneOfSeeds(t *testing.T) {
	for at := range 300 {
		tape := api.Tape{Seed: "one", At: at}
		expect(t, "a coin below 1", below(tape, of(1)), result{api.Int{}, behind(tape, 1), api.OK})
	}
}

func TestP6_2SignedOfSeeds(t *testing.T) {
	for _, seed := range seeds() {
		for _, bound := range bounds() {
			if natural.Cmp(bound, power(1023, 0)) > 0 {
				continue
			}
			tape := api.Tape{Seed: seed, At: 3}
			least := new(big.Int).SetBytes([]byte(bound))
			least.Sub(big.NewInt(1), least)
			n := new(big.Int).Mul(big.NewInt(-2), least)
			x, _ := derive(seed, 3, api.Nat(n.Add(n, big.NewInt(1)).Bytes()))
			want := new(big.Int).SetBytes([]byte(x))
			want.Add(want, least)
			expect(t, "Signed", signed(tape, bound), result{api.Int{Neg: want.Sign() < 0, Abs: api.Nat(want.Bytes())}, behind(tape, 1), api.OK})
		}
	}
}

func TestP6_2ManyOfSeeds(t *testing.T) {
	for _, c := range []struct{ at, count int }{{0, 4096}, {5, 0}, {5, 1}, {5, 20}, {2147483640, 7}, {2147483646, 1}, {2147483647, 0}} {
		tape := api.Tape{Seed: "many", At: c.at}
		var want []api.Nat
		for i := range c.count {
			x, _ := derive("many", c.at+i, of(1000))
			want = append(want, x)
		}
		l, next, err := coins.Many(tape, of(1000), c.count)
		if !slices.Equal(l, want) || !same(next, behind(tape, c.count)) || err != api.OK {
			t.Errorf("%d coins behind %d end at %d, %d", c.count, c.at, next.At, err)
		}
	}
	failMany(t, api.Tape{Seed: "many", At: 2147483640}, of(1000), 8, api.ErrCoins)
	failMany(t, api.Tape{Seed: "many", At: 2147483647}, of(1000), 1, api.ErrCoins)
}

func TestP6_2ManyBehindValues(t *testing.T) {
	tape := api.Tape{Values: numbers(3, 1, 4), Seed: "behind", At: 1}
	want := numbers(1, 4)
	for at := range 4 {
		x, _ := derive("behind", 3+at, of(10))
		want = append(want, x)
	}
	l, next, err := coins.Many(tape, of(10), 6)
	if !slices.Equal(l, want) || !same(next, behind(tape, 6)) || err != api.OK {
		t.Errorf("coins from values and a seed are %q, %#v, %d; want %q", l, next, err, want)
	}
}

func TestP6_3CoinsAreBelowTheirBounds(t *testing.T) {
	for _, n := range bounds() {
		for at := range 20 {
			x, _, err := coins.Below(api.Tape{Seed: "bounds", At: at}, n)
			if err != api.OK || !natural.Valid(x) || natural.Cmp(x, n) >= 0 {
				t.Errorf("a coin below %q is %q, %d", n, x, err)
			}
			a, _, err := coins.Signed(api.Tape{Seed: "bounds", At: at}, n)
			if err != api.OK && err != api.ErrLong || !integer.Valid(a) || err == api.OK && natural.Cmp(a.Abs, n) >= 0 {
				t.Errorf("a coin with a magnitude below %q is %v, %d", n, a, err)
			}
		}
	}
}

func TestP6_3TheSameCoinsAgain(t *testing.T) {
	for _, tape := range []api.Tape{coins.Seed("again"), {Values: numbers(3, 1, 4), Seed: "again"}, coins.Values(numbers(1, 5, 9, 2, 6, 5, 3, 5, 8, 9)...)} {
		l, _, err := coins.Many(tape, of(10), 10)
		m, _, _ := coins.Many(tape, of(10), 10)
		if err != api.OK || !slices.Equal(l, m) {
			t.Errorf("%#v yields %q, then %q", tape, l, m)
		}
		next := tape
		for i, x := range l {
			expect(t, "Below", below(next, of(10)), result{api.Int{Abs: x}, behind(tape, i+1), api.OK})
			_, next, _ = coins.Below(next, of(10))
		}
	}
}

func TestP6_3SignedIsOneToOne(t *testing.T) {
	for bound := int64(1); bound < 30; bound++ {
		found := map[int64]bool{}
		for x := range 2*bound - 1 {
			a, _, err := coins.Signed(coins.Values(of(uint64(x))), of(uint64(bound)))
			n, ok := integer.Small(a)
			if err != api.OK || !ok || n <= -bound || n >= bound {
				t.Fatalf("the value %d for the bound %d is %v, %d", x, bound, a, err)
			}
			found[n] = true
		}
		if len(found) != int(2*bound-1) {
			t.Errorf("%d values for the bound %d", len(found), bound)
		}
	}
}

func TestP6_3OnlySeedAndAtMatter(t *testing.T) {
	for count := range 10 {
		var values []api.Nat
		for i := range count {
			values = append(values, of(uint64(i*i)))
		}
		for _, n := range bounds() {
			a := below(api.Tape{Values: values, Seed: "only", At: 9}, n)
			if b := below(api.Tape{Seed: "only", At: 9}, n); a.x != b.x || a.err != api.OK {
				t.Errorf("behind %d values a coin below %q is %q instead of %q", count, n, a.x.Abs, b.x.Abs)
			}
		}
	}
	n := power(200, 0)
	if below(api.Tape{Seed: "a", At: 1}, n).x == below(api.Tape{Seed: "b", At: 1}, n).x || below(api.Tape{Seed: "a", At: 1}, n).x == below(api.Tape{Seed: "a", At: 2}, n).x {
		t.Error("the seed or At does not matter")
	}
}
