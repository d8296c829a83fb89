package params_test

import (
	"fmt"
	"math"
	"math/rand"
	"slices"
	"testing"

	"domino/api"
	"domino/coins"
)

func TestP11_1Examples(t *testing.T) {
	prime, safe := draws()[0], draws()[1]
	for _, c := range []struct {
		d      draw
		bits   int
		values []api.Nat
		p      uint64
		after  int
	}{
		{prime, 2, numbers(0), 2, 1}, {prime, 2, numbers(1, 0), 3, 1}, {prime, 3, numbers(1), 5, 1}, {prime, 3, numbers(3, 1), 7, 1}, {prime, 3, numbers(0, 2, 3), 7, 3},
		{prime, 4, numbers(0, 1, 2, 3, 4, 5), 11, 4}, {prime, 4, numbers(7, 6, 4, 5), 13, 4},
		{safe, 3, numbers(0, 1), 5, 1}, {safe, 3, numbers(1, 0), 7, 1}, {safe, 4, numbers(0, 1), 11, 2}, {safe, 4, numbers(2, 3, 0, 1, 1), 11, 4},
		{safe, 5, numbers(0, 1, 2, 3, 4, 5, 6), 23, 4}, {safe, 6, numbers(15, 14, 13, 12, 11), 59, 3},
	} {
		tape := coins.Values(c.values...)
		c.d.expect(t, c.bits, tape, drawn{of(c.p), behind(tape, c.after), api.OK})
	}
}

func TestP11_1EachCoin(t *testing.T) {
	for _, d := range draws() {
		for bits := d.least; bits <= 11; bits++ {
			bound := d.bound(bits)
			for c := range bound {
				tape := coins.Values(of(c))
				want := drawn{err: api.ErrCoins}
				if n, ok := d.number(bits, c); ok {
					want = drawn{of(n), behind(tape, 1), api.OK}
				}
				d.expect(t, bits, tape, want)
			}
			d.fail(t, bits, coins.Values(of(bound)), api.ErrRange)
			d.fail(t, bits, coins.Values(of(bound+1)), api.ErrRange)
			d.fail(t, bits, coins.Values(power(1024, -1)), api.ErrRange)
		}
	}
}

func TestP11_1ManyCoins(t *testing.T) {
	r := rand.New(rand.NewSource(111))
	for _, d := range draws() {
		for bits := d.least; bits <= 14; bits++ {
			bound := d.bound(bits)
			for range 100 {
				tape := api.Tape{At: r.Intn(4)}
				for range r.Intn(60) {
					tape.Values = append(tape.Values, of(r.Uint64()%(bound+bound/50)))
				}
				if r.Intn(2) == 0 {
					tape.Seed = fmt.Sprint("seed ", r.Intn(100))
				}
				d.expect(t, bits, tape, d.wanted(bits, tape))
			}
		}
	}
}

func TestP11_1Seeds(t *testing.T) {
	for _, d := range draws() {
		for bits := d.least; bits <= 60; bits++ {
			for i := range 2 {
				tape := api.Tape{Seed: fmt.Sprint("a seed for ", bits), At: 1000 * i}
				d.expect(t, bits, tape, d.wanted(bits, tape))
			}
		}
	}
}

func TestP11_1LongestPrimes(t *testing.T) {
	for _, d := range draws() {
		// The greatest and the least one with 60 bits.
		greatest, least := d.bound(60)-1, uint64(0)
		for _, ok := d.number(60, greatest); !ok; _, ok = d.number(60, greatest) {
			greatest--
		}
		for _, ok := d.number(60, least); !ok; _, ok = d.number(60, least) {
			least++
		}
		for _, coin := range []uint64{greatest, least} {
			n, _ := d.number(60, coin)
			tape := coins.Values(of(coin))
			d.expect(t, 60, tape, drawn{of(n), behind(tape, 1), api.OK})
		}
		d.fail(t, 60, coins.Values(of(d.bound(60))), api.ErrRange)
	}
}

// TestP11_1OnlyItsCoins checks that coins behind the attempts, which may be no coins for this bound, stay on the tape.
func TestP11_1OnlyItsCoins(t *testing.T) {
	prime, safe := draws()[0], draws()[1]
	for _, c := range []struct {
		d      draw
		bits   int
		values []api.Nat
		p      uint64
	}{{prime, 4, numbers(99, 98, 0, 1, 3, 1000, 0), 11}, {safe, 4, numbers(99, 98, 0, 3, 1, 1000, 0), 11}} {
		for _, seed := range []string{"", "s"} {
			tape := api.Tape{Values: c.values, Seed: seed, At: 2}
			c.d.expect(t, c.bits, tape, drawn{of(c.p), behind(tape, 3), api.OK})
			// A coin that is too great is an error where it is drawn, and only there.
			c.d.fail(t, c.bits, behind(tape, -1), api.ErrRange)
			c.d.fail(t, c.bits, behind(tape, 3), api.ErrRange)
		}
	}
	// The search goes on from the values to the seed.
	for _, d := range draws() {
		for at := range 4 {
			tape := api.Tape{Values: numbers(0, 0, 0), Seed: "onwards", At: at}
			want := d.wanted(20, api.Tape{Seed: "onwards", At: 3})
			want.rest = api.Tape{Values: tape.Values, Seed: tape.Seed, At: max(want.rest.At, at)}
			d.expect(t, 20, tape, want)
		}
	}
}

func TestP11_1Attempts(t *testing.T) {
	prime, safe := draws()[0], draws()[1]
	for _, c := range []struct {
		d    draw
		last uint64
		p    uint64
	}{{prime, 3, 11}, {safe, 1, 11}} {
		tape := coins.Values(repeated(65535, 0, c.last)...)
		c.d.expect(t, 4, tape, drawn{of(c.p), behind(tape, 65536), api.OK})
		c.d.fail(t, 4, coins.Values(repeated(65536, 0, c.last)...), api.ErrPrime)
		c.d.fail(t, 4, coins.Values(repeated(65536, 0)...), api.ErrPrime)
		c.d.fail(t, 4, coins.Values(repeated(65536, 0, 1000)...), api.ErrPrime)
		c.d.fail(t, 4, api.Tape{Values: repeated(65536, 0), Seed: "s"}, api.ErrPrime)
		c.d.fail(t, 4, coins.Values(repeated(65535, 0)...), api.ErrCoins)
		c.d.fail(t, 4, coins.Values(repeated(65535, 0, 1000)...), api.ErrRange)
		tape = behind(coins.Values(repeated(65540, 0, c.last)...), 5)
		c.d.expect(t, 4, tape, drawn{of(c.p), behind(tape, 65536), api.OK})
	}
}

func TestP11_1Errors(t *testing.T) {
	for _, d := range draws() {
		for _, bits := range []int{math.MinInt, -1 << 31, -60, -1, 0, 1, d.least - 1, 61, 62, 63, 64, 65, 128, 1 << 31, math.MaxInt} {
			for _, tape := range []api.Tape{{}, {Seed: "s"}, {Values: numbers(0, 1, 2, 3)}, {Values: numbers(1 << 62)}, {Seed: "s", At: math.MaxInt32}} {
				d.fail(t, bits, tape, api.ErrRange)
			}
			for _, tape := range broken() {
				d.fail(t, bits, tape, api.ErrForm)
			}
		}
		for _, bits := range []int{d.least, 5, 60} {
			for _, tape := range broken() {
				d.fail(t, bits, tape, api.ErrForm)
			}
			d.fail(t, bits, api.Tape{}, api.ErrCoins)
			d.fail(t, bits, api.Tape{Values: numbers(1), At: 1}, api.ErrCoins)
			d.fail(t, bits, api.Tape{Values: numbers(1), At: math.MaxInt32}, api.ErrCoins)
			d.fail(t, bits, api.Tape{Seed: "s", At: math.MaxInt32}, api.ErrCoins)
		}
	}
}

// TestP11_1Memory checks that tapes are not changed, and that results share no memory with them.
func TestP11_1Memory(t *testing.T) {
	for _, d := range draws() {
		values := append(make([]api.Nat, 0, 8), numbers(0, 3, 1, 7)...)
		tape := api.Tape{Values: values, Seed: "s"}
		got := d.draw(4, tape)
		if !slices.Equal(got.rest.Values, values) {
			t.Errorf("%s returns the values %q", d.name, got.rest.Values)
		}
		got.rest.Values[0] = of(9)
		_ = append(got.rest.Values, of(9))
		if whole := values[:8]; !slices.Equal(whole, append(numbers(0, 3, 1, 7), "", "", "", "")) {
			t.Errorf("%s shares its values: they became %q", d.name, whole)
		}
	}
}
