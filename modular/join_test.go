package modular_test

import (
	"math/big"
	"testing"

	"domino/api"
	"domino/modular"
	"domino/natural"
)

// joined is what Join returns.
type joined struct {
	x, multiple api.Nat
	err         api.Errno
}

func join(a, m, b, n api.Nat) joined {
	x, multiple, err := modular.Join(a, m, b, n)
	return joined{x, multiple, err}
}

// search returns what Join should return for small numbers, by trying all numbers below the least common multiple.
func search(a, m, b, n uint64) joined {
	if m == 0 || n == 0 {
		return joined{"", "", api.ErrZero}
	}
	multiple := m
	for multiple%n != 0 {
		multiple += m
	}
	for x := range multiple {
		if x%m == a%m && x%n == b%n {
			return joined{natural.Of(x), natural.Of(multiple), api.OK}
		}
	}
	return joined{"", "", api.ErrNone}
}

func TestP3_2JoinSmall(t *testing.T) {
	for m := range uint64(13) {
		for n := range uint64(13) {
			for a := range uint64(15) {
				for b := range uint64(15) {
					got := join(natural.Of(a), natural.Of(m), natural.Of(b), natural.Of(n))
					if want := search(a, m, b, n); got != want {
						t.Fatalf("Join(%d, %d, %d, %d) is %v, want %v", a, m, b, n, got, want)
					}
				}
			}
		}
	}
}

// multiple returns the least common multiple of two numbers.
func multiple(m, n *big.Int) *big.Int {
	l := new(big.Int).Mul(m, n)
	return l.Quo(l, new(big.Int).GCD(nil, nil, m, n))
}

func TestP3_2JoinLong(t *testing.T) {
	l := samples(30, 60)
	for i, m := range l {
		for j, n := range l {
			a, b := l[(3*i+j)%len(l)], l[(i+5*j)%len(l)]
			if m == "" || n == "" {
				if got := join(a, m, b, n); got != (joined{"", "", api.ErrZero}) {
					t.Fatalf("Join(%q, %q, %q, %q) is %v, want ErrZero", a, m, b, n, got)
				}
				continue
			}
			checkJoin(t, a, m, b, n)
			checkJoin(t, a, m, a, n)
		}
	}
}

// checkJoin checks the conditions that determine the result of Join: below the multiple there is at most one such number.
func checkJoin(t *testing.T, a, m, b, n api.Nat) {
	t.Helper()
	na, nm, nb, nn := toBig(a), toBig(m), toBig(b), toBig(n)
	got, least := join(a, m, b, n), multiple(nm, nn)
	gap := new(big.Int).Sub(na, nb)
	gap.Mod(gap, new(big.Int).GCD(nil, nil, nm, nn))
	switch {
	case gap.Sign() != 0:
		if got != (joined{"", "", api.ErrNone}) {
			t.Fatalf("Join(%q, %q, %q, %q) is %v, want ErrNone", a, m, b, n, got)
		}
	case len(least.Bytes()) > api.MaxBytes:
		if got != (joined{"", "", api.ErrLong}) {
			t.Fatalf("Join(%q, %q, %q, %q) is %v, want ErrLong", a, m, b, n, got)
		}
	case got.err != api.OK || got.multiple != fromBig(least) || !natural.Valid(got.x) || toBig(got.x).Cmp(least) >= 0 || !congruent(toBig(got.x), na, nm) || !congruent(toBig(got.x), nb, nn):
		t.Fatalf("Join(%q, %q, %q, %q) is %v", a, m, b, n, got)
	}
}

// congruent reports whether a and b have the same remainder modulo m.
func congruent(a, b, m *big.Int) bool {
	d := new(big.Int).Sub(a, b)
	return d.Mod(d, m).Sign() == 0
}

func TestP3_2JoinExamples(t *testing.T) {
	n := natural.Of
	max := bytes(api.MaxBytes, "\xff")
	half := "\x01" + bytes(api.MaxBytes/2, "\x00") // 2^512
	for _, c := range []struct {
		a, m, b, n api.Nat
		want       joined
	}{
		{n(2), n(3), n(3), n(5), joined{n(8), n(15), api.OK}},
		{n(1), n(4), n(3), n(6), joined{n(9), n(12), api.OK}},
		{n(1), n(4), n(2), n(6), joined{"", "", api.ErrNone}},
		{n(17), n(1), n(19), n(1), joined{"", n(1), api.OK}},
		{n(17), n(1), n(19), n(7), joined{n(5), n(7), api.OK}},
		{n(19), n(7), n(17), n(1), joined{n(5), n(7), api.OK}},
		{n(3), max, n(3), max, joined{n(3), max, api.OK}},
		{n(3), max, n(4), max, joined{"", "", api.ErrNone}},
		{max, max, "", n(1), joined{"", max, api.OK}},
		// (2^512 - 1)(2^512 + 1) is the greatest number of 128 bytes.
		{n(1), bytes(64, "\xff"), n(1), half[:64] + "\x01", joined{n(1), max, api.OK}},
		// The multiple is too long, although the number would not be.
		{n(1), half, n(1), half[:64] + "\x01", joined{"", "", api.ErrLong}},
		{n(1), max, n(1), n(2), joined{"", "", api.ErrLong}},
		// ErrNone comes before ErrLong: 2^1024 - 2 and 4 have the divisor 2.
		{n(1), max[:127] + "\xfe", n(1), n(4), joined{"", "", api.ErrLong}},
		{n(1), max[:127] + "\xfe", n(2), n(4), joined{"", "", api.ErrNone}},
	} {
		if got := join(c.a, c.m, c.b, c.n); got != c.want {
			t.Errorf("Join(%q, %q, %q, %q) is %v, want %v", c.a, c.m, c.b, c.n, got, c.want)
		}
	}
}

func TestP3_2JoinInvalid(t *testing.T) {
	for _, bad := range invalid() {
		for _, a := range []api.Nat{"", "\x01", "\x05", bad} {
			for _, p := range [][4]api.Nat{{bad, a, a, a}, {a, bad, a, a}, {a, a, bad, a}, {a, a, a, bad}, {a, "", a, bad}, {a, bad, a, ""}} {
				if got := join(p[0], p[1], p[2], p[3]); got != (joined{"", "", api.ErrForm}) {
					t.Errorf("Join of %q is %v, want ErrForm", p, got)
				}
			}
		}
	}
}
