package params

import (
	"domino/api"
	"domino/coins"
	"domino/natural"
	"domino/prime"
)

const (
	maxAttempts = 65536 // attempts of a search
	maxBits     = 60    // of a prime that is drawn
)

// Prime draws a prime with so many bits; ErrForm if the tape is not well-formed, then ErrRange if bits is not from 2 to 60, then the error of a coin, then ErrPrime if no attempt succeeds.
func Prime(bits int, t api.Tape) (api.Nat, api.Tape, api.Errno) {
	if err := checkDraw(t, bits, 2, maxBits); err != api.OK {
		return "", api.Tape{}, err
	}
	low := uint64(1) << (bits - 1)
	coin, rest, err := search(t, low, func(coin uint64) bool {
		return isPrime(low + coin)
	})
	if err != api.OK {
		return "", api.Tape{}, err
	}
	return natural.Of(low + coin), rest, api.OK
}

// SafePrime draws a safe prime with so many bits; its errors are those of Prime, but bits is at least 3.
func SafePrime(bits int, t api.Tape) (api.Nat, api.Tape, api.Errno) {
	if err := checkDraw(t, bits, 3, maxBits); err != api.OK {
		return "", api.Tape{}, err
	}
	low := uint64(1) << (bits - 2)
	coin, rest, err := search(t, low, func(coin uint64) bool {
		half := low + coin
		return isPrime(half) && isPrime(2*half+1)
	})
	if err != api.OK {
		return "", api.Tape{}, err
	}
	return natural.Of(2*(low+coin) + 1), rest, api.OK
}

// checkDraw returns ErrForm if the tape is not well-formed, then ErrRange if bits is not from least to most.
func checkDraw(t api.Tape, bits, least, most int) api.Errno {
	// Drawing no coin demands a well-formed tape alone.
	if _, _, err := coins.Many(t, natural.Of(1), 0); err != api.OK {
		return err
	}
	if bits < least || bits > most {
		return api.ErrRange
	}
	return api.OK
}

// search draws coins below bound until an attempt succeeds with one of them, and returns this coin and the tape behind it; the error of a coin, then ErrPrime if no attempt succeeds.
func search(t api.Tape, bound uint64, attempt func(coin uint64) bool) (uint64, api.Tape, api.Errno) {
	// Drawing no coin copies the tape, so that the result shares no values with the argument.
	_, rest, err := coins.Many(t, natural.Of(bound), 0)
	if err != api.OK {
		return 0, api.Tape{}, err
	}
	for range maxAttempts {
		coin, err := nextCoin(rest, bound)
		if err != api.OK {
			return 0, api.Tape{}, err
		}
		rest.At++
		if attempt(coin) {
			return coin, rest, api.OK
		}
	}
	return 0, api.Tape{}, api.ErrPrime
}

// nextCoin returns the next coin below bound of a well-formed tape. It draws from a tape without the values that do not matter, since each draw copies them.
func nextCoin(t api.Tape, bound uint64) (uint64, api.Errno) {
	short := api.Tape{Seed: t.Seed, At: t.At}
	if t.At < len(t.Values) {
		short = coins.Values(t.Values[t.At])
	}
	coin, _, err := coins.Below(short, natural.Of(bound))
	if err != api.OK {
		return 0, err
	}
	small, _ := natural.Small(coin)
	return small, api.OK
}

// isPrime reports whether n is prime.
func isPrime(n uint64) bool {
	is, _ := prime.Is(natural.Of(n))
	return is
}
