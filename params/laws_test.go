package params_test

import (
	"fmt"
	"testing"

	"domino/api"
	"domino/coins"
	"domino/natural"
	"domino/params"
	"domino/prime"
	"domino/primegroup"
	"domino/rsagroup"
)

// seeds returns tapes.
func seeds() []api.Tape {
	var out []api.Tape
	for i := range 8 {
		out = append(out, api.Tape{Seed: fmt.Sprint("seed ", i*i), At: 7 * i}, api.Tape{Values: numbers(0, 0, 0, 0), Seed: fmt.Sprint("seed ", i), At: i % 5})
	}
	return out
}

// used returns a tape with the coins below a bound that were drawn between two tapes as its values.
func used(t *testing.T, from, to api.Tape, bound api.Nat) api.Tape {
	t.Helper()
	values, _, err := coins.Many(from, bound, to.At-from.At)
	if err != api.OK {
		t.Fatalf("the coins are drawn with the error %d", err)
	}
	return coins.Values(values...)
}

func TestP11_4Primes(t *testing.T) {
	for _, d := range draws() {
		for bits := d.least; bits <= 60; bits += 3 {
			for _, tape := range seeds()[:4] {
				got := d.draw(bits, tape)
				is, _ := prime.Is(got.p)
				safe, _ := prime.Safe(got.p)
				if got.err != api.OK || !is || natural.Bits(got.p) != bits || d.name == "SafePrime" && !safe {
					t.Errorf("%s(%d) is %q, %d", d.name, bits, got.p, got.err)
				}
				again := used(t, tape, got.rest, of(d.bound(bits)))
				d.expect(t, bits, again, drawn{got.p, behind(again, len(again.Values)), api.OK})
			}
		}
	}
}

func TestP11_4Main(t *testing.T) {
	for bits := 2; bits <= 40; bits++ {
		for _, tape := range seeds() {
			g, rest, err := params.Main(bits, tape)
			if err != api.OK || primegroup.Check(g) != api.OK || natural.Bits(g.Order) != bits {
				t.Errorf("Main(%d) is %q, %d", bits, g, err)
			}
			again := used(t, tape, rest, of(1<<(bits-1)))
			mainIs(t, bits, again, g, behind(again, len(again.Values)), api.OK)
		}
	}
}

func TestP11_4Whole(t *testing.T) {
	for _, bits := range []int{3, 6, 7, 8, 9, 10, 15, 20, 27, 32} {
		for _, tape := range seeds() {
			g, d, rest, err := params.Whole(bits, tape)
			if err != api.OK || rsagroup.Check(g, d) != api.OK || natural.Bits(d.P) != bits || natural.Bits(d.Q) != bits {
				t.Errorf("Whole(%d) is %q, %q, %d", bits, g, d, err)
			}
			again := used(t, tape, rest, of(1<<(bits-2)))
			wholeIs(t, bits, again, d.P, d.Q, behind(again, len(again.Values)), api.OK)
		}
	}
}

// drawnParams returns parameters with keys from a tape.
func drawnParams(t *testing.T, tape api.Tape) api.Params {
	p := small()
	g, rest, err := params.Main(16, tape)
	n, _, rest, err2 := params.Whole(12, rest)
	if err != api.OK || err2 != api.OK {
		t.Fatalf("the groups are drawn with the errors %d, %d", err, err2)
	}
	p.Main.Group, p.Whole.Group = g, n
	p.Main.G, _ = primegroup.Hash(g, "G")
	p.Main.H, _ = primegroup.Hash(g, "H")
	p.Whole.G, rest, _ = rsagroup.Square(n, rest)
	p.Whole.H, _, _ = rsagroup.Square(n, rest)
	return p
}

func TestP11_4GreaterNumbers(t *testing.T) {
	for _, tape := range seeds() {
		p := drawnParams(t, tape)
		checked(t, "drawn parameters", p, api.OK)
		for _, name := range []string{"Blind", "Mask", "ExpLow", "ExpSize", "Handle"} {
			for _, x := range []api.Nat{of(16), of(1000), power(64, 0), power(500, 3), power(1024, -1)} {
				*fields(&p)[name] = x
				if err := params.Check(p); err != api.OK {
					t.Errorf("%s is %q: Check is %d", name, x, err)
				}
			}
		}
	}
}
