package params_test

import (
	"math/big"
	"slices"
	"strings"
	"testing"

	"domino/api"
	"domino/coins"
	"domino/natural"
	"domino/params"
)

// of returns the canonical string of a small number.
func of(n uint64) api.Nat { return natural.Of(n) }

// toBig returns the number of a canonical string.
func toBig(a api.Nat) *big.Int { return new(big.Int).SetBytes([]byte(a)) }

// fromBig returns the string of a number.
func fromBig(n *big.Int) api.Nat { return api.Nat(n.Bytes()) }

// power returns 2^k + d.
func power(k uint, d int64) api.Nat {
	n := new(big.Int).Lsh(big.NewInt(1), k)
	return fromBig(n.Add(n, big.NewInt(d)))
}

// numbers returns a list of small numbers.
func numbers(l ...uint64) []api.Nat {
	var out []api.Nat
	for _, x := range l {
		out = append(out, of(x))
	}
	return out
}

// repeated returns a list of so many times x, with other numbers behind them.
func repeated(count int, x uint64, l ...uint64) []api.Nat {
	return append(slices.Repeat(numbers(x), count), numbers(l...)...)
}

// behind returns the tape t after n coins.
func behind(t api.Tape, n int) api.Tape {
	return api.Tape{Values: slices.Clone(t.Values), Seed: t.Seed, At: t.At + n}
}

// same reports whether two tapes are the same value.
func same(a, b api.Tape) bool {
	return slices.Equal(a.Values, b.Values) && a.Seed == b.Seed && a.At == b.At
}

// invalid returns strings that are not canonical.
func invalid() []api.Nat {
	return []api.Nat{"\x00", "\x00\x05", "\x00" + power(1015, 0), power(1024, 0), api.Nat(strings.Repeat("\xff", 200))}
}

// broken returns tapes that are not well-formed.
func broken() []api.Tape {
	l := []api.Tape{{At: -1}, {At: 1 << 31}, {Seed: "s", At: -1}, {Seed: "s", At: 1 << 31}, {Values: numbers(1, 2), At: -1}}
	for _, x := range invalid() {
		l = append(l, api.Tape{Values: []api.Nat{x}}, api.Tape{Values: []api.Nat{of(1), x}, Seed: "s"}, api.Tape{Values: []api.Nat{x, of(1)}, At: 1}, api.Tape{Values: []api.Nat{x}, Seed: "s", At: 7})
	}
	return l
}

// isPrime decides with an independent method, which is exact below 2^64.
func isPrime(n uint64) bool { return new(big.Int).SetUint64(n).ProbablyPrime(0) }

// drawn is what Prime and SafePrime return.
type drawn struct {
	p    api.Nat
	rest api.Tape
	err  api.Errno
}

// draw is Prime or SafePrime with its definition: the bound of the coins, and the number for a coin with whether it is one that is looked for.
type draw struct {
	name   string
	least  int
	call   func(bits int, t api.Tape) (api.Nat, api.Tape, api.Errno)
	bound  func(bits int) uint64
	number func(bits int, coin uint64) (uint64, bool)
}

func (d draw) draw(bits int, t api.Tape) drawn {
	p, rest, err := d.call(bits, t)
	return drawn{p, rest, err}
}

// draws returns Prime and SafePrime.
func draws() []draw {
	return []draw{
		{"Prime", 2, params.Prime,
			func(bits int) uint64 { return 1 << (bits - 1) },
			func(bits int, coin uint64) (uint64, bool) {
				n := 1<<(bits-1) + coin
				return n, isPrime(n)
			}},
		{"SafePrime", 3, params.SafePrime,
			func(bits int) uint64 { return 1 << (bits - 2) },
			func(bits int, coin uint64) (uint64, bool) {
				n := 2*(1<<(bits-2)+coin) + 1
				return n, isPrime(n) && isPrime((n-1)/2)
			}},
	}
}

// wanted is what a function must return, as its definition says, for a well-formed tape and bits in the range.
func (d draw) wanted(bits int, t api.Tape) drawn {
	bound := of(d.bound(bits))
	rest := t
	for range 65536 {
		coin, next, err := coins.Below(rest, bound)
		if err != api.OK {
			return drawn{err: err}
		}
		rest = next
		c, _ := natural.Small(coin)
		if n, ok := d.number(bits, c); ok {
			return drawn{of(n), rest, api.OK}
		}
	}
	return drawn{err: api.ErrPrime}
}

// expect compares what Prime or SafePrime returns with what it must return.
func (d draw) expect(t *testing.T, bits int, tape api.Tape, want drawn) {
	t.Helper()
	got := d.draw(bits, tape)
	if got.p != want.p || !same(got.rest, want.rest) || got.err != want.err {
		t.Errorf("%s(%d) of %d values, the seed %q and At %d is %q, At %d, %d; want %q, At %d, %d", d.name, bits, len(tape.Values), tape.Seed, tape.At, got.p, got.rest.At, got.err, want.p, want.rest.At, want.err)
	}
}

// fail expects an error.
func (d draw) fail(t *testing.T, bits int, tape api.Tape, err api.Errno) {
	t.Helper()
	d.expect(t, bits, tape, drawn{err: err})
}
