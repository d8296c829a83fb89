package primegroup_test

import (
	"crypto/sha256"
	"fmt"
	"math/big"
	"strings"
	"testing"

	"domino/api"
	"domino/primegroup"
)

// attempts returns, for an exponent, the power that each of the counters yields, word for word as the definition says.
func attempts(p, e *big.Int, label string, counters int) []*big.Int {
	var out []*big.Int
	for counter := range counters {
		sum := sha256.Sum256(fmt.Appendf(nil, "%d:%s", counter, label))
		x := new(big.Int).Mod(new(big.Int).SetBytes(sum[:]), p)
		y := new(big.Int).Exp(x, e, p)
		out = append(out, y.Mod(y, p))
	}
	return out
}

// first returns the index of the first number that is neither 0 nor 1, or -1.
func first(l []*big.Int) int {
	for i, y := range l {
		if y.Cmp(big.NewInt(1)) > 0 {
			return i
		}
	}
	return -1
}

// hashed checks Hash, which returns no number beside an error.
func hashed(t *testing.T, g api.Group, label string, want api.Nat, err api.Errno) {
	t.Helper()
	if got, e := primegroup.Hash(g, label); got != want || e != err {
		t.Errorf("Hash of %q modulo %q, order %q, is %q, %d; want %q, %d", label, g.Modulus, g.Order, got, e, want, err)
	}
}

// expectHash checks Hash by the definition, where the order divides the modulus minus 1.
func expectHash(t *testing.T, g api.Group, label string) {
	t.Helper()
	p := toBig(g.Modulus)
	e := new(big.Int).Sub(p, big.NewInt(1))
	l := attempts(p, e.Div(e, toBig(g.Order)), label, 64)
	if i := first(l); i >= 0 {
		hashed(t, g, label, fromBig(l[i]), api.OK)
	} else {
		hashed(t, g, label, "", api.ErrGroup)
	}
}

// zeros returns labels for which the hash of the first attempt begins with a zero byte.
func zeros() []string {
	var out []string
	for i := 0; len(out) < 5; i++ {
		label := fmt.Sprint("label ", i)
		if sum := sha256.Sum256([]byte("0:" + label)); sum[0] == 0 {
			out = append(out, label)
		}
	}
	return out
}

func TestP9_2Hash(t *testing.T) {
	labels := append(zeros(), "", "label", "0:label", ":", "1", "ä\xff\x00", strings.Repeat("long", 1000))
	groups := append(wide(), group(23, 11), group(23, 2), group(3, 2), group(7, 3), group(7, 2), group(65537, 2))
	for _, g := range groups {
		for _, label := range labels {
			expectHash(t, g, label)
			if x, err := primegroup.Hash(g, label); err == api.OK && !primegroup.IsGenerator(g, x) {
				t.Errorf("Hash of %q modulo %q, order %q, is %q, no generator", label, g.Modulus, g.Order, x)
			}
		}
	}
}

func TestP9_2HashOfGroupsThatAreNotValid(t *testing.T) {
	for p := uint64(1); p < 60; p++ {
		for q := uint64(1); q < 70; q++ {
			if (p-1)%q == 0 {
				expectHash(t, group(p, q), "a label")
				expectHash(t, group(p, q), "")
			}
		}
	}
	for _, label := range []string{"", "a", "label"} {
		hashed(t, group(1, 5), label, "", api.ErrGroup)
		hashed(t, group(2, 1), label, "", api.ErrGroup)
		hashed(t, group(3, 1), label, "", api.ErrGroup)
	}
}

// rare is a group in which few attempts succeed: modulo a product of primes that are large, with that order, all powers of units are 1.
func rare() api.Group { return group(211*421*631, 1) }

func TestP9_2HashTries64Counters(t *testing.T) {
	g := rare()
	p, e := toBig(g.Modulus), toBig(g.Modulus)
	e.Sub(e, big.NewInt(1))
	var last, none bool
	for i := 0; !last || !none; i++ {
		label := fmt.Sprint(i)
		switch l := attempts(p, e, label, 65); first(l) {
		case 63:
			last = true
			hashed(t, g, label, fromBig(l[63]), api.OK)
		case 64:
			none = true
			hashed(t, g, label, "", api.ErrGroup)
		}
	}
}

func TestP9_2HashErrors(t *testing.T) {
	for _, x := range invalid() {
		for _, g := range []api.Group{{Modulus: x, Order: of(11)}, {Modulus: of(23), Order: x}, {Modulus: x, Order: x}, {Modulus: x}, {Order: x}} {
			hashed(t, g, "label", "", api.ErrForm)
		}
	}
	for _, g := range []api.Group{{}, group(0, 11), group(23, 0), group(0, 1), group(1, 0)} {
		hashed(t, g, "label", "", api.ErrZero)
	}
	for _, g := range []api.Group{group(23, 7), group(23, 23), group(11, 23), group(2, 2), {Modulus: of(23), Order: power(1024, -1)}} {
		hashed(t, g, "label", "", api.ErrGroup)
	}
}
