// Package natural implements layer 1: natural numbers as byte strings to the base 256, the most significant byte first.
package natural

import (
	"math/bits"

	"domino/api"
)

// Of returns the canonical string of n.
func Of(n uint64) api.Nat {
	var out []byte
	for shift := 56; shift >= 0; shift -= 8 {
		b := byte(n >> shift)
		if b != 0 || len(out) > 0 {
			out = append(out, b)
		}
	}
	return api.Nat(out)
}

// Small returns the number of a canonical string of at most 8 bytes, and whether a is one.
func Small(a api.Nat) (uint64, bool) {
	if !Valid(a) || len(a) > 8 {
		return 0, false
	}
	n := uint64(0)
	for i := range len(a) {
		n = n<<8 | uint64(a[i])
	}
	return n, true
}

// Valid reports whether a is canonical.
func Valid(a api.Nat) bool {
	return len(a) <= api.MaxBytes && (a == "" || a[0] != 0)
}

// Cmp returns -1, 0 or 1 if a is less than, equal to, or greater than b, and 0 if one of them is not canonical.
func Cmp(a, b api.Nat) int {
	switch {
	case !Valid(a) || !Valid(b) || a == b:
		return 0
	case len(a) < len(b) || len(a) == len(b) && a < b:
		// Without leading zero bytes the shorter string is the smaller number.
		return -1
	}
	return 1
}

// Bits returns the number of binary digits of a, and 0 if a is not canonical.
func Bits(a api.Nat) int {
	if a == "" || !Valid(a) {
		return 0
	}
	return 8*(len(a)-1) + bits.Len8(a[0])
}

// Bit reports whether the binary digit of a with the weight 2^i is 1.
func Bit(a api.Nat, i int) bool {
	if i < 0 || i >= Bits(a) {
		return false
	}
	return a[len(a)-1-i/8]>>(i%8)&1 == 1
}
