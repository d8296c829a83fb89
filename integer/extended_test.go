package integer_test

import (
	"math/big"
	"testing"

	"domino/api"
	"domino/integer"
	"domino/natural"
)

// checkExtended checks that the results are those which the document defines: with its range, x is the only coefficient.
func checkExtended(t *testing.T, a, b api.Nat) {
	t.Helper()
	g, x, y, err := integer.Extended(a, b)
	if err != api.OK || !integer.Valid(x) || !integer.Valid(y) {
		t.Fatalf("Extended(%q, %q) is %q, %v, %v and %d", a, b, g, x, y, err)
	}
	na, nb := toBig(api.Int{Abs: a}), toBig(api.Int{Abs: b})
	want := new(big.Int).GCD(nil, nil, na, nb)
	if g != api.Nat(want.Bytes()) {
		t.Fatalf("Extended(%q, %q) has the divisor %q", a, b, g)
	}
	if b == "" {
		if x != integer.Of(1) || y != integer.Of(0) {
			t.Fatalf("Extended(%q, 0) has the coefficients %v and %v", a, x, y)
		}
		return
	}
	sum := new(big.Int).Add(new(big.Int).Mul(na, toBig(x)), new(big.Int).Mul(nb, toBig(y)))
	if sum.Cmp(want) != 0 {
		t.Fatalf("Extended(%q, %q) has the coefficients %v and %v", a, b, x, y)
	}
	if x.Neg || toBig(x).Cmp(new(big.Int).Quo(nb, want)) >= 0 {
		t.Fatalf("Extended(%q, %q) has the coefficient %v, which is out of range", a, b, x)
	}
}

func TestP2_3Extended(t *testing.T) {
	for a := range 40 {
		for b := range 40 {
			checkExtended(t, natural.Of(uint64(a)), natural.Of(uint64(b)))
		}
	}
	l := magnitudes(10)
	for _, a := range l {
		for _, b := range l {
			checkExtended(t, a, b)
			// Numbers with a large common divisor.
			n, m := toBig(api.Int{Abs: a}), toBig(api.Int{Abs: b})
			f := new(big.Int).Lsh(big.NewInt(123456789), 200)
			if n.BitLen() < 700 && m.BitLen() < 700 {
				checkExtended(t, api.Nat(n.Mul(n, f).Bytes()), api.Nat(m.Mul(m, f).Bytes()))
			}
		}
	}
}

// TestP2_3ExtendedLong uses neighbours in the Fibonacci sequence, whose coefficients are the longest ones.
func TestP2_3ExtendedLong(t *testing.T) {
	a, b := big.NewInt(0), big.NewInt(1)
	for b.BitLen() <= 8*api.MaxBytes {
		if a.BitLen() > 1000 || a.BitLen() < 20 {
			checkExtended(t, api.Nat(a.Bytes()), api.Nat(b.Bytes()))
			checkExtended(t, api.Nat(b.Bytes()), api.Nat(a.Bytes()))
		}
		a.Add(a, b)
		a, b = b, a
	}
}

func TestP2_3ExtendedExamples(t *testing.T) {
	for _, c := range []struct {
		a, b, g uint64
		x, y    int64
	}{{12, 18, 6, 2, -1}, {18, 12, 6, 1, -1}, {5, 1, 1, 0, 1}, {1, 5, 1, 1, 0}, {4, 0, 4, 1, 0}, {0, 4, 4, 0, 1}, {0, 0, 0, 1, 0}, {1, 1, 1, 0, 1}, {7, 7, 7, 0, 1}, {0, 1, 1, 0, 1}, {1, 0, 1, 1, 0}, {3, 7, 1, 5, -2}} {
		g, x, y, err := integer.Extended(natural.Of(c.a), natural.Of(c.b))
		if g != natural.Of(c.g) || x != integer.Of(c.x) || y != integer.Of(c.y) || err != api.OK {
			t.Errorf("Extended(%d, %d) is %q, %v, %v and %d", c.a, c.b, g, x, y, err)
		}
	}
}

func TestP2_3ExtendedInvalid(t *testing.T) {
	for _, bad := range invalidNats() {
		for _, a := range []api.Nat{"", "\x05", bytes(api.MaxBytes, "\xff"), bad} {
			for _, p := range [][2]api.Nat{{a, bad}, {bad, a}} {
				if g, x, y, err := integer.Extended(p[0], p[1]); g != "" || x != (api.Int{}) || y != (api.Int{}) || err != api.ErrForm {
					t.Errorf("Extended(%q, %q) is %q, %v, %v and %d, want ErrForm", p[0], p[1], g, x, y, err)
				}
			}
		}
	}
}
