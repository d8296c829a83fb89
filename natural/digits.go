package natural

import (
	"domino/api"
)

// Calculations use digits to the base 2^32, the least significant one first. Digits are trimmed if the last one is not 0; the digits of 0 are then empty.
const (
	digitBits  = 32
	digitBytes = digitBits / 8
	digitMask  = 1<<digitBits - 1
	maxDigits  = api.MaxBytes / digitBytes
)

// digitsOf returns the trimmed digits of a canonical string.
func digitsOf(a api.Nat) []uint32 {
	x := make([]uint32, (len(a)+digitBytes-1)/digitBytes)
	for i := range len(a) {
		b := uint32(a[len(a)-1-i])
		x[i/digitBytes] |= b << (8 * (i % digitBytes))
	}
	return x
}

// natOf returns the canonical string of the number with the digits x; ErrLong if it is too long.
func natOf(x []uint32) (api.Nat, api.Errno) {
	x = trim(x)
	if len(x) > maxDigits {
		return "", api.ErrLong
	}
	out := make([]byte, 0, digitBytes*len(x))
	for i := range digitBytes * len(x) {
		k := digitBytes*len(x) - 1 - i
		b := byte(x[k/digitBytes] >> (8 * (k % digitBytes)))
		if b != 0 || len(out) > 0 {
			out = append(out, b)
		}
	}
	return api.Nat(out), api.OK
}

// trim returns x without the zeros at its end.
func trim(x []uint32) []uint32 {
	for len(x) > 0 && x[len(x)-1] == 0 {
		x = x[:len(x)-1]
	}
	return x
}

// sum returns the digits of x + y.
func sum(x, y []uint32) []uint32 {
	if len(x) < len(y) {
		x, y = y, x
	}
	out := make([]uint32, len(x)+1)
	carry := uint64(0)
	for i := range len(x) {
		carry += uint64(x[i])
		if i < len(y) {
			carry += uint64(y[i])
		}
		out[i] = uint32(carry)
		carry >>= digitBits
	}
	out[len(x)] = uint32(carry)
	return out
}

// difference returns the digits of x - y, where y is at most x.
func difference(x, y []uint32) []uint32 {
	out := make([]uint32, len(x))
	borrow := uint64(0)
	for i := range len(x) {
		d := uint64(x[i]) - borrow
		if i < len(y) {
			d -= uint64(y[i])
		}
		out[i] = uint32(d)
		borrow = d >> 63
	}
	return out
}

// columns are the sums of the columns of a product. Each one adds at most 2 * maxDigits halves of products of two digits, so it is below 2^38.
type columns [2 * maxDigits]uint64

// fill replaces c with the columns of the product of x and y, which have at most maxDigits digits each.
func (c *columns) fill(x, y []uint32) {
	clear(c[:])
	for i := range len(x) {
		for j := range len(y) {
			p := uint64(x[i]) * uint64(y[j])
			c[i+j] += p & digitMask
			c[i+j+1] += p >> digitBits
		}
	}
}

// digits returns the digits of the number with the columns c.
func (c *columns) digits() []uint32 {
	out := make([]uint32, len(c))
	carry := uint64(0)
	for i := range len(c) {
		carry += c[i]
		out[i] = uint32(carry)
		carry >>= digitBits
	}
	return out
}

// scale returns the digits of x * factor + plus; it may overwrite x.
func scale(x []uint32, factor, plus uint32) []uint32 {
	carry := uint64(plus)
	for i := range len(x) {
		carry += uint64(x[i]) * uint64(factor)
		x[i] = uint32(carry)
		carry >>= digitBits
	}
	if carry > 0 {
		x = append(x, uint32(carry))
	}
	return x
}
