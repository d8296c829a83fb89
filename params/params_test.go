package params_test

import (
	"fmt"
	"math/big"
	"math/rand"
	"testing"

	"domino/api"
	"domino/natural"
	"domino/params"
)

// small returns valid parameters with small numbers.
func small() api.Params {
	return api.Params{
		Rule:   api.Rule{Challenges: of(2), Slack: of(2)},
		Main:   api.Pedersen{Group: api.Group{Modulus: of(47), Order: of(23)}, G: of(4), H: of(2)},
		Whole:  api.Pedersen{Group: api.Group{Modulus: of(77)}, G: of(4), H: of(9)},
		Secret: of(23), Attr: of(2), Handle: of(10), ExpLow: of(3), ExpSize: of(5), Blind: of(7), Mask: of(15),
	}
}

// keyOf returns a key of the subgroup with an order of the numbers modulo a prime.
func keyOf(modulus, order api.Nat) api.Pedersen {
	one := big.NewInt(1)
	cofactor := new(big.Int).Div(new(big.Int).Sub(toBig(modulus), one), toBig(order))
	element := func(x int64) api.Nat {
		return fromBig(new(big.Int).Exp(big.NewInt(x), cofactor, toBig(modulus)))
	}
	return api.Pedersen{Group: api.Group{Modulus: modulus, Order: order}, G: element(2), H: element(3)}
}

// large returns valid parameters with a main group of the order 2^31 - 1.
func large() api.Params {
	const q = 1<<31 - 1
	k := uint64(2)
	for !isPrime(k*q + 1) {
		k += 2
	}
	p := small()
	p.Main = keyOf(of(k*q+1), of(q))
	return p
}

// fields returns all numbers of parameters by their names.
func fields(p *api.Params) map[string]*api.Nat {
	return map[string]*api.Nat{
		"Rule.Challenges": &p.Rule.Challenges, "Rule.Slack": &p.Rule.Slack,
		"Main.Group.Modulus": &p.Main.Group.Modulus, "Main.Group.Order": &p.Main.Group.Order, "Main.G": &p.Main.G, "Main.H": &p.Main.H,
		"Whole.Group.Modulus": &p.Whole.Group.Modulus, "Whole.Group.Order": &p.Whole.Group.Order, "Whole.G": &p.Whole.G, "Whole.H": &p.Whole.H,
		"Secret": &p.Secret, "Attr": &p.Attr, "Handle": &p.Handle, "ExpLow": &p.ExpLow, "ExpSize": &p.ExpSize, "Blind": &p.Blind, "Mask": &p.Mask,
	}
}

// checked checks Check, and Sizes, which returns the same errors.
func checked(t *testing.T, what string, p api.Params, want api.Errno) {
	t.Helper()
	if got := params.Check(p); got != want {
		t.Errorf("%s: Check is %d, want %d", what, got, want)
	}
	v, w, err := params.Sizes(p)
	if want != api.OK && (v != "" || w != "" || err != want) {
		t.Errorf("%s: Sizes is %q, %q, %d; want the error %d", what, v, w, err, want)
	}
}

func TestP11_3CheckOfForms(t *testing.T) {
	names := fields(&api.Params{})
	if len(names) != 17 {
		t.Fatalf("%d numbers", len(names))
	}
	for name := range names {
		for _, x := range invalid() {
			p := small()
			*fields(&p)[name] = x
			checked(t, name, p, api.ErrForm)
			// The form comes before everything else.
			p = api.Params{}
			*fields(&p)[name] = x
			checked(t, name+" alone", p, api.ErrForm)
		}
	}
	p := small()
	p.Mask, p.Whole.G, p.Rule.Slack = "\x00\x0f", "", ""
	checked(t, "three errors", p, api.ErrForm)
	checked(t, "nothing", api.Params{}, api.ErrGroup)
}

func TestP11_3CheckOfMain(t *testing.T) {
	for modulus := uint64(0); modulus < 60; modulus++ {
		for order := uint64(0); order < 30; order++ {
			p := small()
			p.Main.Group = api.Group{Modulus: of(modulus), Order: of(order)}
			p.Secret, p.Rule.Challenges = of(2), of(2)
			want := api.ErrGroup
			if isPrime(modulus) && isPrime(order) && (modulus-1)%order == 0 && generates(4, modulus, order) && generates(2, modulus, order) {
				want = api.ErrRange // 8 * 2 is at most the order
				if order >= 16 {
					want = api.OK
				}
			}
			checked(t, fmt.Sprintf("the modulus %d and the order %d", modulus, order), p, want)
		}
	}
	for x := range uint64(100) {
		want := api.ErrGroup
		if generates(x, 47, 23) {
			want = api.OK
		}
		p := small()
		p.Main.G = of(x)
		checked(t, fmt.Sprintf("Main.G %d", x), p, want)
		p = small()
		p.Main.H = of(x)
		checked(t, fmt.Sprintf("Main.H %d", x), p, want)
	}
	p := small()
	p.Main.G, p.Main.H = of(3), of(3)
	checked(t, "G and H are equal", p, api.OK)
	checked(t, "a larger group", large(), api.OK)
}

// generates reports whether x is a generator of a group with a prime order.
func generates(x, modulus, order uint64) bool {
	power := uint64(1)
	for range order {
		power = power * x % modulus
	}
	return 1 < x && x < modulus && power == 1
}

func TestP11_3CheckOfLongMain(t *testing.T) {
	// 2^64 - 59 is the greatest prime of 8 bytes, and 2^89 - 1 is a prime of 12 bytes.
	last := toBig(power(64, -60))
	q := uint64(17)
	for !isPrime(q) || new(big.Int).Mod(last, toBig(of(q))).Sign() != 0 {
		q++
	}
	p := small()
	p.Main = keyOf(power(64, -59), of(q))
	p.Secret = of(2)
	checked(t, "8 bytes", p, api.OK)
	p.Main = keyOf(power(89, -1), of(23))
	checked(t, "12 bytes", p, api.ErrGroup)
	p = small()
	p.Main.Group.Order = power(89, -1)
	checked(t, "an order of 12 bytes", p, api.ErrGroup)
}

func TestP11_3CheckOfWhole(t *testing.T) {
	for n := range uint64(130) {
		for _, h := range []uint64{2, 4} {
			p := small()
			p.Whole = api.Pedersen{Group: api.Group{Modulus: of(n)}, G: of(2), H: of(h)}
			want := api.ErrGroup
			if n%2 == 1 && n > 8 {
				want = api.OK
			}
			checked(t, fmt.Sprintf("the modulus %d", n), p, want)
		}
	}
	for x := range uint64(200) {
		want := api.ErrGroup
		if 1 < x && x < 77 && x%7 != 0 && x%11 != 0 {
			want = api.OK
		}
		p := small()
		p.Whole.G = of(x)
		checked(t, fmt.Sprintf("Whole.G %d", x), p, want)
		p = small()
		p.Whole.H = of(x)
		checked(t, fmt.Sprintf("Whole.H %d", x), p, want)
	}
	for order := range uint64(100) {
		want := api.ErrGroup
		if order == 0 {
			want = api.OK
		}
		p := small()
		p.Whole.Group.Order = of(order)
		checked(t, fmt.Sprintf("the order %d", order), p, want)
	}
	p := small()
	p.Whole = api.Pedersen{Group: api.Group{Modulus: power(1024, -1)}, G: of(2), H: power(1024, -2)}
	checked(t, "a modulus of 128 bytes", p, api.OK)
	p.Whole.H = power(1024, -1)
	checked(t, "no unit of 128 bytes", p, api.ErrGroup)
	p.Whole = api.Pedersen{Group: api.Group{Modulus: power(1024, -2)}, G: of(3), H: of(5)}
	checked(t, "an even modulus of 128 bytes", p, api.ErrGroup)
}

func TestP11_3CheckOfRanges(t *testing.T) {
	for _, base := range []func() api.Params{small, large} {
		q, _ := natural.Small(base().Main.Group.Order)
		most := map[string]api.Nat{"Rule.Challenges": of(q), "Secret": of(q), "Attr": of(q / 8)}
		for _, name := range []string{"Rule.Challenges", "Rule.Slack", "Secret", "Attr", "Handle", "ExpLow", "ExpSize", "Blind", "Mask"} {
			for _, x := range []api.Nat{"", of(1), of(2), of(3), of(q/8 - 1), of(q / 8), of(q/8 + 1), of(q / 4), of(q - 1), of(q), of(q + 1), of(8 * q), power(61, 0), power(64, 2), power(1020, 0), power(1021, 2), power(1024, -1)} {
				limit, limited := most[name]
				want := api.OK
				if natural.Cmp(x, of(2)) < 0 || limited && natural.Cmp(x, limit) > 0 {
					want = api.ErrRange
				}
				p := base()
				*fields(&p)[name] = x
				if got := params.Check(p); got != want {
					t.Errorf("%s is %q: Check is %d, want %d", name, x, got, want)
				}
			}
		}
	}
	// For the order 17 the only bound of attributes is 2; 29 / 8 is rounded down; for 13 there is none.
	for _, c := range []struct {
		modulus, order, g, attr uint64
		want                    api.Errno
	}{{103, 17, 8, 2, api.OK}, {103, 17, 8, 3, api.ErrRange}, {59, 29, 4, 3, api.OK}, {59, 29, 4, 4, api.ErrRange}, {53, 13, 16, 2, api.ErrRange}, {53, 13, 16, 1, api.ErrRange}} {
		p := small()
		p.Main = api.Pedersen{Group: api.Group{Modulus: of(c.modulus), Order: of(c.order)}, G: of(c.g), H: of(c.g)}
		p.Secret, p.Attr = of(c.order), of(c.attr)
		checked(t, fmt.Sprintf("attributes below %d for the order %d", c.attr, c.order), p, c.want)
	}
}

func TestP11_3CheckOfSeveralErrors(t *testing.T) {
	for _, key := range []string{"Main.Group.Modulus", "Main.Group.Order", "Main.G", "Main.H", "Whole.Group.Modulus", "Whole.G", "Whole.H"} {
		for _, bound := range []string{"Rule.Challenges", "Rule.Slack", "Secret", "Attr", "Handle", "ExpLow", "ExpSize", "Blind", "Mask"} {
			p := small()
			*fields(&p)[key], *fields(&p)[bound] = of(1), of(1)
			checked(t, key+" and "+bound, p, api.ErrGroup)
			*fields(&p)[bound] = "\x00"
			checked(t, key+" and the form of "+bound, p, api.ErrForm)
		}
	}
}

// sizes are the definitions of both sizes.
func sizes(p api.Params) (*big.Int, *big.Int) {
	v := new(big.Int).Add(toBig(p.ExpLow), toBig(p.ExpSize))
	v.Mul(v, toBig(p.Mask)).Add(v, toBig(p.Blind)).Add(v, toBig(p.Blind))
	return v, new(big.Int).Mul(toBig(p.Handle), toBig(p.Mask))
}

// sized checks Sizes for valid parameters.
func sized(t *testing.T, p api.Params) api.Errno {
	t.Helper()
	if err := params.Check(p); err != api.OK {
		t.Fatalf("Check is %d", err)
	}
	v, w, err := params.Sizes(p)
	x, y := sizes(p)
	wantV, wantW, want := fromBig(x), fromBig(y), api.OK
	if len(wantV) > 128 || len(wantW) > 128 {
		wantV, wantW, want = "", "", api.ErrLong
	}
	if v != wantV || w != wantW || err != want {
		t.Errorf("Sizes of %+v is %q, %q, %d; want %q, %q, %d", p, v, w, err, wantV, wantW, want)
	}
	return err
}

func TestP11_3Sizes(t *testing.T) {
	v, w, err := params.Sizes(small())
	if v != of(134) || w != of(150) || err != api.OK {
		t.Errorf("Sizes is %q, %q, %d", v, w, err)
	}
	r := rand.New(rand.NewSource(113))
	random := func(bits int) api.Nat {
		return fromBig(new(big.Int).Add(new(big.Int).Rand(r, toBig(power(uint(1+r.Intn(bits)), 0))), big.NewInt(2)))
	}
	found := map[api.Errno]int{}
	for range 3000 {
		p := small()
		p.Handle, p.ExpLow, p.ExpSize, p.Blind, p.Mask = random(800), random(800), random(800), random(1015), random(400)
		found[sized(t, p)]++
	}
	if found[api.OK] < 300 || found[api.ErrLong] < 300 {
		t.Errorf("the errors are %v", found)
	}
}

func TestP11_3SizesAtTheLimit(t *testing.T) {
	for _, c := range []struct {
		handle, low, size, blind, mask api.Nat
		want                           api.Errno
	}{
		// 2 Blind + 5 * 3
		{of(2), of(2), of(3), power(1023, -8), of(3), api.OK},
		{of(2), of(2), of(3), power(1023, -7), of(3), api.ErrLong},
		{of(2), of(2), of(3), power(1023, -1), of(3), api.ErrLong},
		{of(2), of(2), of(3), power(1023, 0), of(3), api.ErrLong},
		{of(2), of(2), of(3), power(1024, -1), of(3), api.ErrLong},
		// 4 + (ExpLow + 2) * 2
		{of(2), power(1023, -5), of(2), of(2), of(2), api.OK},
		{of(2), power(1023, -4), of(2), of(2), of(2), api.ErrLong},
		{of(2), power(1024, -3), of(2), of(2), of(2), api.ErrLong},
		{of(2), power(1024, -2), of(2), of(2), of(2), api.ErrLong},
		{of(2), of(2), power(1023, -5), of(2), of(2), api.OK},
		{of(2), of(2), power(1024, -1), of(2), of(2), api.ErrLong},
		// Handle * 2
		{power(1023, -1), of(2), of(2), of(2), of(2), api.OK},
		{power(1023, 0), of(2), of(2), of(2), of(2), api.ErrLong},
		{power(1024, -1), of(2), of(2), of(2), of(2), api.ErrLong},
		// 4 + 4 Mask, and 2 Mask or 6 Mask
		{of(2), of(2), of(2), of(2), power(1022, -2), api.OK},
		{of(2), of(2), of(2), of(2), power(1022, -1), api.ErrLong},
		{of(6), of(2), of(2), of(2), power(1022, -2), api.ErrLong},
		{of(2), of(2), of(2), of(2), power(1024, -1), api.ErrLong},
	} {
		p := small()
		p.Handle, p.ExpLow, p.ExpSize, p.Blind, p.Mask = c.handle, c.low, c.size, c.blind, c.mask
		if got := sized(t, p); got != c.want {
			t.Errorf("Sizes of %+v is %d, want %d", p, got, c.want)
		}
	}
	// An error of Check comes before a long result.
	p := small()
	p.Mask, p.Blind = power(1024, -1), of(1)
	checked(t, "a long size and a range", p, api.ErrRange)
	p.Whole.H = of(1)
	checked(t, "a long size and a group", p, api.ErrGroup)
}
