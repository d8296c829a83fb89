package natural_test

import (
	"testing"

	"domino/api"
	"domino/natural"
)

type binary func(a, b api.Nat) (api.Nat, api.Errno)

// short returns numbers of at most 32 bytes, for which no law runs into ErrLong.
func short() []api.Nat {
	var l []api.Nat
	for _, a := range append(edges(), random(30, 120)...) {
		if len(a) <= 32 {
			l = append(l, a)
		}
	}
	return l
}

// apply calls f, which must not fail.
func apply(t *testing.T, f binary, a, b api.Nat) api.Nat {
	t.Helper()
	c, err := f(a, b)
	if err != api.OK {
		t.Fatalf("an operation of %q and %q returned %d", a, b, err)
	}
	return c
}

func TestP1_4Laws(t *testing.T) {
	l := short()
	add, mul := binary(natural.Add), binary(natural.Mul)
	for i, a := range l {
		for j, b := range l {
			c := l[(i+3*j)%len(l)]
			for _, f := range []binary{add, mul} {
				if apply(t, f, a, b) != apply(t, f, b, a) {
					t.Errorf("%q and %q do not commute", a, b)
				}
				if apply(t, f, apply(t, f, a, b), c) != apply(t, f, a, apply(t, f, b, c)) {
					t.Errorf("%q, %q and %q are not associative", a, b, c)
				}
			}
			if apply(t, mul, a, apply(t, add, b, c)) != apply(t, add, apply(t, mul, a, b), apply(t, mul, a, c)) {
				t.Errorf("%q does not distribute over %q and %q", a, b, c)
			}
			if apply(t, natural.Sub, apply(t, add, a, b), b) != a {
				t.Errorf("Sub does not undo the addition of %q to %q", b, a)
			}
		}
	}
}

func TestP1_4Division(t *testing.T) {
	l := samples(31)
	for _, a := range l {
		for _, b := range l {
			if b == "" {
				continue
			}
			q, r, err := natural.DivMod(a, b)
			if err != api.OK || natural.Cmp(r, b) >= 0 {
				t.Fatalf("DivMod(%q, %q) has the remainder %q and the error %d", a, b, r, err)
			}
			if apply(t, natural.Add, apply(t, natural.Mul, q, b), r) != a {
				t.Errorf("DivMod(%q, %q) is %q and %q", a, b, q, r)
			}
		}
	}
}

func TestP1_4Bits(t *testing.T) {
	for _, a := range samples(32) {
		sum, power := api.Nat(""), natural.Of(1)
		for i := range 8 * api.MaxBytes {
			if natural.Bit(a, i) {
				sum = apply(t, natural.Add, sum, power)
				if i >= natural.Bits(a) {
					t.Errorf("Bit(%q, %d) is true, but Bits is %d", a, i, natural.Bits(a))
				}
			}
			if i+1 < 8*api.MaxBytes {
				power = apply(t, natural.Add, power, power)
			}
		}
		if sum != a {
			t.Errorf("the bits of %q add up to %q", a, sum)
		}
	}
}
