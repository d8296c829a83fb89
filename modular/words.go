package modular

import (
	"math/bits"

	"domino/api"
)

// Products are calculated here and not by layer 1, as they may be longer than the longest number. They use words to the base 2^64, the least significant one first.
const (
	wordBits  = 64
	wordBytes = wordBits / 8
)

// modulus is a modulus that is not 0. Numbers modulo it have as many words as it has.
type modulus struct {
	shifted []uint64 // its words, shifted to the left until the highest bit is set
	shift   int
}

// modulusOf returns the modulus m.
func modulusOf(m api.Nat) modulus {
	words := wordsOf(m, 0)
	shift := bits.LeadingZeros64(words[len(words)-1])
	shiftLeft(words, shift)
	return modulus{words, shift}
}

// words returns the words of the remainder of a.
func (m modulus) words(a api.Nat) []uint64 {
	return m.reduce(append(wordsOf(a, len(m.shifted)), 0))
}

// multiplier returns the multiplication modulo m.
func multiplier(m modulus) func(x, y []uint64) []uint64 {
	return func(x, y []uint64) []uint64 { return m.reduce(product(x, y)) }
}

// reduce returns the remainder of x, which is overwritten. The highest word of x is 0, and x has more words than m.
func (m modulus) reduce(x []uint64) []uint64 {
	n := len(m.shifted)
	shiftLeft(x, m.shift)
	for i := range len(x) - n {
		at := len(x) - n - 1 - i
		divideStep(x[at:at+n+1], m.shifted)
	}
	shiftRight(x[:n], m.shift)
	return x[:n]
}

// divideStep replaces rest with the remainder of rest modulo y. The highest bit of y is set, rest has one word more than y, and the quotient is one word.
func divideStep(rest, y []uint64) {
	n := len(y)
	guess := ^uint64(0)
	if rest[n] < y[n-1] {
		guess, _ = bits.Div64(rest[n], rest[n-1], y[n-1])
	}
	// With the highest bit of y set, the guess is at most 2 too large.
	for negative := subtractTimes(rest, y, guess); negative; {
		negative = !addBack(rest, y)
	}
}

// subtractTimes subtracts y * factor from rest, which has one word more than y, and reports whether the result is negative.
func subtractTimes(rest, y []uint64, factor uint64) bool {
	carry, borrow := uint64(0), uint64(0)
	for i, w := range y {
		high, low := bits.Mul64(w, factor)
		low, c := bits.Add64(low, carry, 0)
		carry = high + c
		rest[i], borrow = bits.Sub64(rest[i], low, borrow)
	}
	rest[len(y)], borrow = bits.Sub64(rest[len(y)], carry, borrow)
	return borrow == 1
}

// addBack adds y to rest, which is negative and has one word more than y, and reports whether the result is not negative.
func addBack(rest, y []uint64) bool {
	carry := uint64(0)
	for i, w := range y {
		rest[i], carry = bits.Add64(rest[i], w, carry)
	}
	rest[len(y)], carry = bits.Add64(rest[len(y)], carry, 0)
	return carry == 1
}

// product returns the words of x y, and one word 0 above them.
func product(x, y []uint64) []uint64 {
	out := make([]uint64, len(x)+len(y)+1)
	for i, a := range x {
		carry := uint64(0)
		for j, b := range y {
			high, low := bits.Mul64(a, b)
			low, c := bits.Add64(low, carry, 0)
			carry = high + c
			out[i+j], c = bits.Add64(out[i+j], low, 0)
			carry += c
		}
		out[i+len(y)] = carry
	}
	return out
}

// shiftLeft replaces x with x * 2^shift, for a shift of less than one word that loses no bit.
func shiftLeft(x []uint64, shift int) {
	low := uint64(0)
	for i, w := range x {
		x[i] = w<<shift | low
		low = w >> (wordBits - shift)
	}
}

// shiftRight replaces x with x / 2^shift, for a shift of less than one word.
func shiftRight(x []uint64, shift int) {
	high := uint64(0)
	for i := range len(x) {
		at := len(x) - 1 - i
		w := x[at]
		x[at] = w>>shift | high
		high = w << (wordBits - shift)
	}
}

// wordsOf returns the words of a, with zeros above them up to the given count.
func wordsOf(a api.Nat, count int) []uint64 {
	x := make([]uint64, max(count, (len(a)+wordBytes-1)/wordBytes))
	for i := range len(a) {
		b := uint64(a[len(a)-1-i])
		x[i/wordBytes] |= b << (8 * (i % wordBytes))
	}
	return x
}

// natOf returns the canonical string of the number with the words x.
func natOf(x []uint64) api.Nat {
	var out []byte
	for i := range wordBytes * len(x) {
		k := wordBytes*len(x) - 1 - i
		b := byte(x[k/wordBytes] >> (8 * (k % wordBytes)))
		if b != 0 || len(out) > 0 {
			out = append(out, b)
		}
	}
	return api.Nat(out)
}
