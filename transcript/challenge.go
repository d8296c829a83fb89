package transcript

import (
	"strings"

	"domino/api"
	"domino/modular"
	"domino/natural"
)

// extraBytes is how many bytes more than its bound has the number from which a challenge is taken, so that all challenges are almost equally likely.
const extraBytes = 8

// Challenge returns the number below bound that a state determines; ErrForm if bound is not canonical, then ErrZero if it is 0.
func Challenge(state string, bound api.Nat) (api.Nat, api.Errno) {
	switch {
	case !natural.Valid(bound):
		return "", api.ErrForm
	case bound == "":
		return "", api.ErrZero
	}
	bytes := derived(state, len(bound)+extraBytes)
	// The number may be longer than numbers can be, so that it is taken in two parts.
	high, low := numberOf(bytes[:len(bound)]), numberOf(bytes[len(bound):])
	weight := api.Nat("\x01" + strings.Repeat("\x00", extraBytes))
	shifted, err := modular.Mul(high, weight, bound)
	if err != api.OK {
		return "", err
	}
	return modular.Add(shifted, low, bound)
}

// derived returns the first bytes that a state determines, count of them.
func derived(state string, count int) string {
	var out strings.Builder
	for k := 0; out.Len() < count; k++ {
		out.WriteString(hashOf(kindChallenge, state, eightBytes(k)))
	}
	return out.String()[:count]
}

// numberOf returns the number with the given bytes, the most significant one first.
func numberOf(bytes string) api.Nat {
	return api.Nat(strings.TrimLeft(bytes, "\x00"))
}
