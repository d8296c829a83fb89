// Package integer implements layer 2: integers, which are natural numbers with a sign.
package integer

import (
	"domino/api"
	"domino/natural"
)

// Of returns the integer n.
func Of(n int64) api.Int {
	if n < 0 {
		// The negation of -2^63 overflows to -2^63, whose bits are those of 2^63.
		return signed(true, natural.Of(uint64(-n)))
	}
	return From(natural.Of(uint64(n)))
}

// Small returns a as an int64, and whether it is one.
func Small(a api.Int) (int64, bool) {
	n, ok := natural.Small(a.Abs)
	switch {
	case !ok || !Valid(a):
		return 0, false
	case a.Neg && n <= 1<<63:
		return -int64(n), true
	case !a.Neg && n < 1<<63:
		return int64(n), true
	}
	return 0, false
}

// Valid reports whether a is an integer: its magnitude is canonical, and 0 is not negative.
func Valid(a api.Int) bool {
	return natural.Valid(a.Abs) && !(a.Neg && a.Abs == "")
}

// From returns the integer a, and the zero value if a is not canonical.
func From(a api.Nat) api.Int {
	if !natural.Valid(a) {
		return api.Int{}
	}
	return signed(false, a)
}

// Cmp returns -1, 0 or 1 if a is less than, equal to, or greater than b, and 0 if one of them is not valid.
func Cmp(a, b api.Int) int {
	switch {
	case !Valid(a) || !Valid(b):
		return 0
	case a.Neg && b.Neg:
		return natural.Cmp(b.Abs, a.Abs)
	case a.Neg:
		return -1
	case b.Neg:
		return 1
	}
	return natural.Cmp(a.Abs, b.Abs)
}

// Neg returns -a, and the zero value if a is not valid.
func Neg(a api.Int) api.Int {
	if !Valid(a) {
		return api.Int{}
	}
	return signed(!a.Neg, a.Abs)
}

// signed returns the integer with the magnitude abs, which is negative if neg is set and it is not 0.
func signed(neg bool, abs api.Nat) api.Int {
	return api.Int{Neg: neg && abs != "", Abs: abs}
}
