package integer_test

import (
	"testing"

	"domino/api"
	"domino/integer"
)

type binary func(a, b api.Int) (api.Int, api.Errno)

// apply calls f, which must not fail.
func apply(t *testing.T, f binary, a, b api.Int) api.Int {
	t.Helper()
	c, err := f(a, b)
	if err != api.OK {
		t.Fatalf("an operation of %v and %v returned %d", a, b, err)
	}
	return c
}

// short returns integers of at most 32 bytes, for which no law runs into ErrLong.
func short() []api.Int {
	var l []api.Int
	for _, a := range samples(30) {
		if len(a.Abs) <= 32 {
			l = append(l, a)
		}
	}
	return l
}

func TestP2_5Laws(t *testing.T) {
	l := short()
	add, mul := binary(integer.Add), binary(integer.Mul)
	for i, a := range l {
		for j, b := range l {
			c := l[(i+3*j)%len(l)]
			for _, f := range []binary{add, mul} {
				if apply(t, f, a, b) != apply(t, f, b, a) {
					t.Errorf("%v and %v do not commute", a, b)
				}
				if apply(t, f, apply(t, f, a, b), c) != apply(t, f, a, apply(t, f, b, c)) {
					t.Errorf("%v, %v and %v are not associative", a, b, c)
				}
			}
			if apply(t, mul, a, apply(t, add, b, c)) != apply(t, add, apply(t, mul, a, b), apply(t, mul, a, c)) {
				t.Errorf("%v does not distribute over %v and %v", a, b, c)
			}
			if apply(t, integer.Sub, apply(t, add, a, b), b) != a {
				t.Errorf("subtraction does not undo the addition of %v to %v", b, a)
			}
		}
	}
}

func TestP2_5Order(t *testing.T) {
	l := short()
	sign := func(a api.Int) int {
		if a.Neg {
			return -1
		}
		return min(1, len(a.Abs))
	}
	for i, a := range l {
		for j, b := range l {
			if integer.Cmp(a, b) != sign(apply(t, integer.Sub, a, b)) {
				t.Errorf("Cmp(%v, %v) does not agree with the difference", a, b)
			}
			if integer.Cmp(a, b) != -integer.Cmp(b, a) || (integer.Cmp(a, b) == 0) != (a == b) {
				t.Errorf("Cmp(%v, %v) is not antisymmetric", a, b)
			}
			c := l[(i+3*j)%len(l)]
			if integer.Cmp(a, b) <= 0 && integer.Cmp(b, c) <= 0 && integer.Cmp(a, c) > 0 {
				t.Errorf("Cmp of %v, %v and %v is not transitive", a, b, c)
			}
		}
	}
}
