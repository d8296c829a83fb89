package natural

import (
	"math/bits"
)

// divide returns the digits of the quotient and of the remainder of x and y, which are trimmed; y is not 0.
func divide(x, y []uint32) ([]uint32, []uint32) {
	switch {
	case len(x) < len(y):
		return nil, x
	case len(y) == 1:
		q, r := divideShort(x, y[0])
		return q, []uint32{r}
	}
	// With the highest bit of the divisor set, the guess of a digit of the quotient is at most 2 too large.
	shift := bits.LeadingZeros32(y[len(y)-1])
	y = shiftLeft(y, shift)[:len(y)]
	rest := shiftLeft(x, shift)
	q := make([]uint32, len(x)-len(y)+1)
	for i := range len(q) {
		at := len(q) - 1 - i
		q[at] = divideStep(rest[at:at+len(y)+1], y)
	}
	return q, shiftRight(rest[:len(y)], shift)
}

// divideShort returns the digits of the quotient of x and d, which is not 0, and the remainder.
func divideShort(x []uint32, d uint32) ([]uint32, uint32) {
	q := make([]uint32, len(x))
	r := uint64(0)
	for i := range len(x) {
		at := len(x) - 1 - i
		r = r<<digitBits | uint64(x[at])
		q[at] = uint32(r / uint64(d))
		r %= uint64(d)
	}
	return q, uint32(r)
}

// divideStep returns the quotient of rest and y, which is one digit, and replaces rest with the remainder. The highest bit of y is set, y has at least two digits, and rest has one digit more.
func divideStep(rest, y []uint32) uint32 {
	guess := guessDigit(rest, y)
	if subtractTimes(rest, y, guess) {
		// The guess was still 1 too large.
		guess--
		addBack(rest, y)
	}
	return uint32(guess)
}

// guessDigit returns the quotient of rest and y, or 1 more, from their highest digits.
func guessDigit(rest, y []uint32) uint64 {
	n := len(y)
	top := uint64(rest[n])<<digitBits | uint64(rest[n-1])
	guess, left := top/uint64(y[n-1]), top%uint64(y[n-1])
	for guess > digitMask || guess*uint64(y[n-2]) > left<<digitBits|uint64(rest[n-2]) {
		guess--
		left += uint64(y[n-1])
		if left > digitMask {
			// The next comparison would overflow, and the guess would pass it.
			break
		}
	}
	return guess
}

// subtractTimes subtracts y * factor from rest, modulo the numbers of as many digits, and reports whether the result would be negative.
func subtractTimes(rest, y []uint32, factor uint64) bool {
	carry := uint64(0)
	borrow := uint64(0)
	for i := range len(rest) {
		if i < len(y) {
			carry += uint64(y[i]) * factor
		}
		d := uint64(rest[i]) - carry&digitMask - borrow
		rest[i] = uint32(d)
		borrow = d >> 63
		carry >>= digitBits
	}
	return borrow == 1
}

// addBack adds y to rest, modulo the numbers of as many digits as rest has.
func addBack(rest, y []uint32) {
	carry := uint64(0)
	for i := range len(rest) {
		carry += uint64(rest[i])
		if i < len(y) {
			carry += uint64(y[i])
		}
		rest[i] = uint32(carry)
		carry >>= digitBits
	}
}

// shiftLeft returns the digits of x * 2^shift, one more than x has, for a shift of less than one digit.
func shiftLeft(x []uint32, shift int) []uint32 {
	out := make([]uint32, len(x)+1)
	for i := range len(x) {
		wide := uint64(x[i]) << shift
		out[i] |= uint32(wide)
		out[i+1] = uint32(wide >> digitBits)
	}
	return out
}

// shiftRight returns the digits of x / 2^shift, as many as x has, for a shift of less than one digit.
func shiftRight(x []uint32, shift int) []uint32 {
	out := make([]uint32, len(x))
	for i := range len(x) {
		wide := uint64(x[i])
		if i+1 < len(x) {
			wide |= uint64(x[i+1]) << digitBits
		}
		out[i] = uint32(wide >> shift)
	}
	return out
}
