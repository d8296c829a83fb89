package modular_test

import (
	"math/big"
	"testing"

	"domino/api"
	"domino/modular"
	"domino/natural"
)

// legendre returns the Legendre symbol of a and a small odd prime, from all squares.
func legendre(a, p uint64) int {
	if a%p == 0 {
		return 0
	}
	for x := range p {
		if x*x%p == a%p {
			return 1
		}
	}
	return -1
}

// symbol returns the Jacobi symbol of small numbers, as the product of Legendre symbols.
func symbol(a, n uint64) int {
	out := 1
	for p := uint64(3); n > 1; p += 2 {
		for n%p == 0 {
			out *= legendre(a, p)
			n /= p
		}
	}
	return out
}

func TestP3_2JacobiSmall(t *testing.T) {
	for n := uint64(1); n < 200; n += 2 {
		for a := range 2*n + 3 {
			got, err := modular.Jacobi(natural.Of(a), natural.Of(n))
			if want := symbol(a, n); got != want || err != api.OK {
				t.Fatalf("Jacobi(%d, %d) is %d and %d, want %d", a, n, got, err, want)
			}
		}
	}
}

func TestP3_2JacobiLong(t *testing.T) {
	l := samples(40, 80)
	for _, a := range l {
		for _, n := range l {
			got, err := modular.Jacobi(a, n)
			want, wantErr := 0, api.OK
			switch {
			case n == "":
				wantErr = api.ErrZero
			case !natural.Bit(n, 0):
				wantErr = api.ErrArg
			default:
				want = big.Jacobi(toBig(a), toBig(n))
			}
			if got != want || err != wantErr {
				t.Fatalf("Jacobi(%q, %q) is %d and %d, want %d and %d", a, n, got, err, want, wantErr)
			}
		}
	}
}

func TestP3_2JacobiErrors(t *testing.T) {
	for _, c := range []struct {
		a, n api.Nat
		want int
		err  api.Errno
	}{
		{"\x02", "\x0f", 1, api.OK}, {"\x02", "\x05", -1, api.OK}, {"\x03", "\x09", 0, api.OK}, {"\x07", "\x0f", -1, api.OK},
		{"", "\x01", 1, api.OK}, {"", "\x03", 0, api.OK}, {"\x05", "\x01", 1, api.OK}, {"\x01", "\x03", 1, api.OK},
		{"\x05", "", 0, api.ErrZero}, {"", "", 0, api.ErrZero},
		{"\x05", "\x02", 0, api.ErrArg}, {"", "\x04", 0, api.ErrArg}, {"\x05", bytes(api.MaxBytes, "\xfe"), 0, api.ErrArg},
		{"\x00", "", 0, api.ErrForm}, {"\x00\x05", "\x02", 0, api.ErrForm}, {"\x05", "\x00", 0, api.ErrForm}, {"", "\x00\x03", 0, api.ErrForm},
		{bytes(129, "\x01"), "\x03", 0, api.ErrForm}, {"\x03", bytes(129, "\x01"), 0, api.ErrForm}, {"\x03", bytes(129, "\x02"), 0, api.ErrForm},
	} {
		if got, err := modular.Jacobi(c.a, c.n); got != c.want || err != c.err {
			t.Errorf("Jacobi(%q, %q) is %d and %d, want %d and %d", c.a, c.n, got, err, c.want, c.err)
		}
	}
}
