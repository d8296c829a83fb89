package primegroup

import (
	"strconv"
	"strings"

	"domino/api"
	"domino/hash"
	"domino/modular"
	"domino/natural"
)

// Hash returns an element other than 1 that is determined by the label; ErrZero if a number of the group is 0, then ErrGroup if the order does not divide the modulus minus 1, or if no attempt yields such an element.
func Hash(g api.Group, label string) (api.Nat, api.Errno) {
	switch {
	case !wellFormed(g):
		return "", api.ErrForm
	case g.Modulus == "" || g.Order == "":
		return "", api.ErrZero
	}
	exponent, err := cofactor(g)
	if err != api.OK {
		return "", err
	}
	for counter := range api.MaxTries {
		sum := hash.Sum(strconv.Itoa(counter) + ":" + label)
		x, _ := modular.Exp(numberOf(sum), exponent, g.Modulus)
		if natural.Cmp(x, natural.Of(1)) > 0 {
			return x, api.OK
		}
	}
	return "", api.ErrGroup
}

// numberOf returns the number with the given bytes, the most significant one first.
func numberOf(bytes string) api.Nat {
	return api.Nat(strings.TrimLeft(bytes, "\x00"))
}
