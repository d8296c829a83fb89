package coins

import (
	"iter"
	"strconv"
	"strings"

	"domino/api"
	"domino/hash"
	"domino/natural"
)

// attempts is how many numbers a seed offers for each coin.
const attempts = 256

// firstBelow returns the first one of the numbers that is less than n; ErrCoins if there is none.
func firstBelow(numbers iter.Seq[api.Nat], n api.Nat) (api.Nat, api.Errno) {
	for x := range numbers {
		if natural.Cmp(x, n) < 0 {
			return x, api.OK
		}
	}
	return "", api.ErrCoins
}

// candidates yields the numbers of at most so many bits, at least 1, that the seed offers for the coin behind at others.
func candidates(seed string, at, bits int) iter.Seq[api.Nat] {
	return func(yield func(api.Nat) bool) {
		for a := range attempts {
			if !yield(candidate(seed, strconv.Itoa(at)+"."+strconv.Itoa(a), bits)) {
				return
			}
		}
	}
}

// candidate returns the number of at most so many bits, at least 1, that the seed offers under a name.
func candidate(seed, name string, bits int) api.Nat {
	out := make([]byte, (bits+7)/8)
	filled := 0
	for block := range blocks(seed, name) {
		filled += copy(out[filled:], block)
		if filled == len(out) {
			break
		}
	}
	out[0] &= 0xff >> (8*len(out) - bits)
	return api.Nat(strings.TrimLeft(string(out), "\x00"))
}

// blocks yields the bytes that the seed offers under a name, block by block without end.
func blocks(seed, name string) iter.Seq[string] {
	return func(yield func(string) bool) {
		for b := 0; yield(hash.Mac(seed, name+"."+strconv.Itoa(b))); b++ {
		}
	}
}
