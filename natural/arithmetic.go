package natural

import (
	"domino/api"
)

// Add returns a + b; ErrLong if it is too long.
func Add(a, b api.Nat) (api.Nat, api.Errno) {
	if !Valid(a) || !Valid(b) {
		return "", api.ErrForm
	}
	return natOf(sum(digitsOf(a), digitsOf(b)))
}

// Sub returns a - b; ErrRange if b is greater than a.
func Sub(a, b api.Nat) (api.Nat, api.Errno) {
	if !Valid(a) || !Valid(b) {
		return "", api.ErrForm
	}
	if Cmp(a, b) < 0 {
		return "", api.ErrRange
	}
	return natOf(difference(digitsOf(a), digitsOf(b)))
}

// Mul returns a * b; ErrLong if it is too long.
func Mul(a, b api.Nat) (api.Nat, api.Errno) {
	if !Valid(a) || !Valid(b) {
		return "", api.ErrForm
	}
	var c columns
	c.fill(digitsOf(a), digitsOf(b))
	return natOf(c.digits())
}

// DivMod returns the quotient of a and b, rounded down, and the remainder; ErrZero if b is 0.
func DivMod(a, b api.Nat) (api.Nat, api.Nat, api.Errno) {
	if !Valid(a) || !Valid(b) {
		return "", "", api.ErrForm
	}
	if b == "" {
		return "", "", api.ErrZero
	}
	// Neither result can be too long: none is greater than a.
	x, y := divide(digitsOf(a), digitsOf(b))
	q, _ := natOf(x)
	r, _ := natOf(y)
	return q, r, api.OK
}

// Gcd returns the greatest common divisor of a and b; that of 0 and 0 is 0.
func Gcd(a, b api.Nat) (api.Nat, api.Errno) {
	if !Valid(a) || !Valid(b) {
		return "", api.ErrForm
	}
	for b != "" {
		_, r, _ := DivMod(a, b)
		a, b = b, r
	}
	return a, api.OK
}

// Sqrt returns the greatest number whose square is at most a.
func Sqrt(a api.Nat) (api.Nat, api.Errno) {
	if !Valid(a) {
		return "", api.ErrForm
	}
	if a == "" {
		return "", api.OK
	}
	// Newton's iteration decreases from any number that is not below the root until it reaches the root.
	x := power((Bits(a) + 1) / 2)
	for {
		q, _, _ := DivMod(a, x)
		s, _ := Add(x, q)
		next, _, _ := DivMod(s, Of(2))
		if Cmp(next, x) >= 0 {
			return x, api.OK
		}
		x = next
	}
}

// power returns 2^k.
func power(k int) api.Nat {
	out := make([]byte, k/8+1)
	out[0] = 1 << (k % 8)
	return api.Nat(out)
}
