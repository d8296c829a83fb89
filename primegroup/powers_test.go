package primegroup_test

import (
	"math"
	"math/big"
	"slices"
	"testing"

	"domino/api"
	"domino/natural"
	"domino/primegroup"
)

// list returns 1, base, base^2, .. until 1 would come again, for an element of a small group.
func list(p, base uint64) []api.Nat {
	out := []api.Nat{of(1)}
	for x := base; x != 1; x = x * base % p {
		out = append(out, of(x))
	}
	return out
}

// logarithm checks Log; no logarithm is wanted as -1.
func logarithm(t *testing.T, g api.Group, base, x api.Nat, most, want int) {
	t.Helper()
	k, ok := primegroup.Log(g, base, x, most)
	if ok != (want >= 0) || k != max(0, want) {
		t.Errorf("Log of %q to the base %q modulo %q, order %q, at most %d, is %d, %t; want %d", x, base, g.Modulus, g.Order, most, k, ok, want)
	}
}

func TestP9_3LogOfSmallNumbers(t *testing.T) {
	for _, g := range small() {
		p, _ := natural.Small(g.Modulus)
		for base := range p + 2 {
			var l []api.Nat
			if primegroup.Has(g, of(base)) {
				l = list(p, base)
			}
			for x := range p + 2 {
				k := slices.Index(l, of(x))
				for _, most := range []int{math.MinInt, -2, -1, 0, 1, k - 1, k, k + 1, 30, 100000, math.MaxInt} {
					want := k
					if k > most {
						want = -1
					}
					logarithm(t, g, of(base), of(x), most, want)
				}
			}
		}
	}
}

func TestP9_3LogOfExamples(t *testing.T) {
	g := group(23, 11)
	logarithm(t, g, of(4), of(2), 10, 6)
	logarithm(t, g, of(4), of(2), 6, 6)
	logarithm(t, g, of(4), of(2), 5, -1)
	logarithm(t, g, of(4), of(1), 0, 0)
	logarithm(t, g, of(4), of(1), -1, -1)
	logarithm(t, g, of(1), of(1), 5, 0)
	logarithm(t, g, of(1), of(4), 100, -1)
	logarithm(t, g, of(5), of(1), 100, -1)
	logarithm(t, g, of(4), of(5), 100, -1)
	for _, x := range invalid() {
		logarithm(t, g, x, of(1), 10, -1)
		logarithm(t, g, of(4), x, 10, -1)
		logarithm(t, g, x, x, 10, -1)
		logarithm(t, api.Group{Modulus: x, Order: of(11)}, of(1), of(1), 10, -1)
		logarithm(t, api.Group{Modulus: of(23), Order: x}, of(1), of(1), 10, -1)
	}
}

// lifted returns base^k modulo the modulus of a group.
func lifted(g api.Group, base api.Nat, k int64) api.Nat {
	return fromBig(new(big.Int).Exp(toBig(base), big.NewInt(k), toBig(g.Modulus)))
}

// beyond returns valid groups of an order just above 65536, and of greater ones.
func beyond() []api.Group {
	return []api.Group{above(of(65537), big.NewInt(1)), above(of(65539), big.NewInt(1)), wide()[2], wide()[3]}
}

func TestP9_3LogIsAtMost65536(t *testing.T) {
	for _, g := range beyond() {
		base := generator(g)
		for _, most := range []int{65536, 65537, math.MaxInt} {
			logarithm(t, g, base, lifted(g, base, 65535), most, 65535)
			logarithm(t, g, base, lifted(g, base, 65536), most, 65536)
			if g.Order != of(65537) {
				logarithm(t, g, base, lifted(g, base, 65537), most, -1)
			}
		}
		logarithm(t, g, base, lifted(g, base, 65536), 65535, -1)
		logarithm(t, g, base, lifted(g, base, 300), 300, 300)
		logarithm(t, g, base, lifted(g, base, 300), 299, -1)
	}
}

func TestP9_3Elements(t *testing.T) {
	for _, g := range small() {
		p, _ := natural.Small(g.Modulus)
		for base := range p + 2 {
			var want []api.Nat
			if primegroup.Has(g, of(base)) {
				want = list(p, base)
			}
			if got := slices.Collect(primegroup.Elements(g, of(base))); !slices.Equal(got, want) {
				t.Errorf("the elements for %d modulo %q, order %q, are %q, want %q", base, g.Modulus, g.Order, got, want)
			}
		}
	}
}

func TestP9_3ElementsAreCanonical(t *testing.T) {
	for _, x := range invalid() {
		for _, c := range []struct {
			g    api.Group
			base api.Nat
		}{{group(23, 11), x}, {api.Group{Modulus: x, Order: of(11)}, of(1)}, {api.Group{Modulus: of(23), Order: x}, of(1)}, {api.Group{Modulus: x}, x}} {
			for y := range primegroup.Elements(c.g, c.base) {
				t.Errorf("there is the element %q for %q modulo %q, order %q", y, c.base, c.g.Modulus, c.g.Order)
			}
		}
	}
}

func TestP9_3ElementsAreAtMost65536(t *testing.T) {
	limit := above(of(65521), big.NewInt(1)) // the greatest prime order below the limit
	if got := len(slices.Collect(primegroup.Elements(limit, generator(limit)))); got != 65521 {
		t.Errorf("there are %d elements of the order 65521", got)
	}
	for _, g := range beyond() {
		base := generator(g)
		l := slices.Collect(primegroup.Elements(g, base))
		if len(l) != 65536 {
			t.Fatalf("there are %d elements modulo %q, order %q", len(l), g.Modulus, g.Order)
		}
		for _, k := range []int64{0, 1, 2, 1000, 65535} {
			if l[k] != lifted(g, base, k) {
				t.Errorf("the element %d modulo %q, order %q, is %q", k, g.Modulus, g.Order, l[k])
			}
		}
	}
	// Modulo 65537 the base 3 has 65536 different powers, and 65536 is an order that is not prime.
	if got := len(slices.Collect(primegroup.Elements(group(65537, 65536), of(3)))); got != 65536 {
		t.Errorf("there are %d elements of the order 65536", got)
	}
}

func TestP9_3ElementsAreVisitedAgain(t *testing.T) {
	seq := primegroup.Elements(group(23, 11), of(4))
	want := list(23, 4)
	for stop := range len(want) {
		// A visit that is left has no effect on later ones.
		var got []api.Nat
		for x := range seq {
			got = append(got, x)
			if len(got) == stop+1 {
				break
			}
		}
		if !slices.Equal(got, want[:stop+1]) {
			t.Errorf("a visit that is left yields %q, want %q", got, want[:stop+1])
		}
	}
	count := 0
	for x := range seq {
		// Visits inside of a visit begin at 1.
		if inner := slices.Collect(seq); x != want[count] || !slices.Equal(inner, want) {
			t.Errorf("the element %d is %q, the visit inside yields %q", count, x, inner)
		}
		count++
	}
	if count != len(want) {
		t.Errorf("the outer visit yields %d elements", count)
	}
}
