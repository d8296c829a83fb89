package primegroup_test

import (
	"math/big"
	"testing"

	"domino/api"
	"domino/integer"
	"domino/natural"
	"domino/primegroup"
)

// product checks Mul, which returns no number beside an error.
func product(t *testing.T, g api.Group, a, b, want api.Nat, err api.Errno) {
	t.Helper()
	if got, e := primegroup.Mul(g, a, b); got != want || e != err {
		t.Errorf("Mul of %q and %q modulo %q, order %q, is %q, %d; want %q, %d", a, b, g.Modulus, g.Order, got, e, want, err)
	}
}

// raised checks Power, which returns no number beside an error.
func raised(t *testing.T, g api.Group, a api.Nat, e api.Int, want api.Nat, err api.Errno) {
	t.Helper()
	if got, x := primegroup.Power(g, a, e); got != want || x != err {
		t.Errorf("Power of %q and %v modulo %q, order %q, is %q, %d; want %q, %d", a, e, g.Modulus, g.Order, got, x, want, err)
	}
}

// small returns small groups, which are not all valid.
func small() []api.Group {
	return []api.Group{group(23, 11), group(23, 22), group(3, 2), group(2, 1), group(2, 5), group(13, 3), group(15, 4), group(21, 6), group(8, 2), group(31, 10), group(23, 7), group(1, 1), group(0, 3), group(5, 0)}
}

func TestP9_2MulOfSmallNumbers(t *testing.T) {
	for _, g := range small() {
		p, _ := natural.Small(g.Modulus)
		for a := range p + 2 {
			for b := range p + 2 {
				if primegroup.Has(g, of(a)) && primegroup.Has(g, of(b)) {
					product(t, g, of(a), of(b), of(a*b%p), api.OK)
				} else {
					product(t, g, of(a), of(b), "", api.ErrGroup)
				}
			}
		}
	}
}

// inverse returns the inverse of an element modulo p, which is found by trial.
func inverse(a, p uint64) uint64 {
	x := uint64(1)
	for x*a%p != 1 {
		x++
	}
	return x
}

func TestP9_2PowerOfSmallNumbers(t *testing.T) {
	for _, g := range small() {
		p, _ := natural.Small(g.Modulus)
		for a := range p + 2 {
			if !primegroup.Has(g, of(a)) {
				for _, e := range []int64{-1, 0, 1} {
					raised(t, g, of(a), integer.Of(e), "", api.ErrGroup)
				}
				continue
			}
			back := inverse(a, p)
			for up, down, e := uint64(1), uint64(1), int64(0); e < 50; e++ {
				raised(t, g, of(a), integer.Of(e), of(up), api.OK)
				raised(t, g, of(a), integer.Of(-e), of(down), api.OK)
				up, down = up*a%p, down*back%p
			}
		}
	}
}

func TestP9_2OfWideGroups(t *testing.T) {
	for _, g := range wide() {
		p, x := toBig(g.Modulus), generator(g)
		square := fromBig(new(big.Int).Exp(toBig(x), big.NewInt(2), p))
		product(t, g, x, x, square, api.OK)
		product(t, g, square, x, fromBig(new(big.Int).Exp(toBig(x), big.NewInt(3), p)), api.OK)
		for _, e := range []api.Nat{"", of(1), of(2), g.Order, power(64, 5), power(1000, 9), power(1024, -1)} {
			raised(t, g, x, api.Int{Abs: e}, fromBig(new(big.Int).Exp(toBig(x), toBig(e), p)), api.OK)
			if e != "" {
				negative := new(big.Int).Neg(toBig(e))
				raised(t, g, x, api.Int{Neg: true, Abs: e}, fromBig(new(big.Int).Exp(toBig(x), negative, p)), api.OK)
			}
		}
	}
}

func TestP9_2ErrForm(t *testing.T) {
	g := group(23, 11)
	for _, x := range invalid() {
		// ErrForm comes before ErrGroup: 5 is no element, and nothing is one in the group of the order 0.
		for _, other := range []api.Nat{of(4), of(5), "", x} {
			product(t, g, x, other, "", api.ErrForm)
			product(t, g, other, x, "", api.ErrForm)
			product(t, group(23, 0), other, x, "", api.ErrForm)
			raised(t, g, other, api.Int{Abs: x}, "", api.ErrForm)
			raised(t, g, other, api.Int{Neg: true, Abs: x}, "", api.ErrForm)
			raised(t, g, other, api.Int{Neg: true}, "", api.ErrForm)
			for _, broken := range []api.Group{{Modulus: x, Order: of(11)}, {Modulus: of(23), Order: x}, {Modulus: x}, {Order: x}} {
				product(t, broken, other, of(4), "", api.ErrForm)
				product(t, broken, of(1), other, "", api.ErrForm)
				raised(t, broken, other, integer.Of(1), "", api.ErrForm)
				raised(t, broken, other, integer.Of(-1), "", api.ErrForm)
			}
		}
		raised(t, g, x, integer.Of(1), "", api.ErrForm)
		raised(t, g, x, integer.Of(0), "", api.ErrForm)
		raised(t, group(23, 0), x, integer.Of(-1), "", api.ErrForm)
	}
	product(t, g, "\x00\x04", of(4), "", api.ErrForm)
	product(t, g, of(4), "\x00\x04", "", api.ErrForm)
	raised(t, g, "\x00\x04", integer.Of(2), "", api.ErrForm)
	raised(t, g, of(4), api.Int{Abs: "\x00\x02"}, "", api.ErrForm)
}

func TestP9_2ErrGroup(t *testing.T) {
	g := group(23, 11)
	for _, x := range []api.Nat{"", of(5), of(22), of(23), of(27), power(1024, -1)} {
		product(t, g, x, of(4), "", api.ErrGroup)
		product(t, g, of(4), x, "", api.ErrGroup)
		raised(t, g, x, integer.Of(0), "", api.ErrGroup)
		raised(t, g, x, integer.Of(11), "", api.ErrGroup)
		raised(t, g, x, integer.Of(-1), "", api.ErrGroup)
	}
	product(t, group(23, 0), of(1), of(1), "", api.ErrGroup)
	product(t, group(0, 11), of(1), of(1), "", api.ErrGroup)
	raised(t, group(23, 0), of(1), integer.Of(1), "", api.ErrGroup)
	raised(t, api.Group{}, "", integer.Of(0), "", api.ErrGroup)
}
