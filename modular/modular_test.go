package modular_test

import (
	"math"
	"math/big"
	"math/rand"
	"strings"
	"testing"

	"domino/api"
	"domino/integer"
	"domino/modular"
	"domino/natural"
)

// toBig returns the number of a canonical string.
func toBig(a api.Nat) *big.Int { return new(big.Int).SetBytes([]byte(a)) }

// fromBig returns the canonical string of a number of at most 128 bytes.
func fromBig(n *big.Int) api.Nat { return api.Nat(n.Bytes()) }

// bytes returns a string of n bytes b.
func bytes(n int, b string) api.Nat { return api.Nat(strings.Repeat(b, n)) }

// edges returns numbers at the borders of bytes, of words and of the greatest length.
func edges() []api.Nat {
	var l []api.Nat
	for i := range 8 {
		l = append(l, natural.Of(uint64(i)))
	}
	for _, bits := range []uint{8, 32, 63, 64, 65, 127, 128, 512, 960, 1023} {
		n := new(big.Int).Lsh(big.NewInt(1), bits)
		for _, d := range []int64{-1, 0, 1} {
			l = append(l, fromBig(new(big.Int).Add(n, big.NewInt(d))))
		}
	}
	max := bytes(api.MaxBytes, "\xff")
	return append(l, max, max[:api.MaxBytes-1]+"\xfe", max[1:])
}

// random returns numbers of all lengths; many consist of the least and greatest words, which a division guesses wrongly.
func random(seed int64, count int) []api.Nat {
	r := rand.New(rand.NewSource(seed))
	words := []uint64{0, 1, 2, math.MaxInt64, math.MaxInt64 + 1, math.MaxInt64 + 2, math.MaxUint64 - 1, math.MaxUint64}
	var l []api.Nat
	for range count {
		n := new(big.Int)
		for range r.Intn(17) {
			w := words[r.Intn(len(words))]
			if r.Intn(3) == 0 {
				w = r.Uint64()
			}
			n.Add(n.Lsh(n, 64), new(big.Int).SetUint64(w))
		}
		l = append(l, fromBig(n.Rsh(n, uint(r.Intn(64)))))
	}
	return l
}

// samples returns edges and random numbers.
func samples(seed int64, count int) []api.Nat { return append(edges(), random(seed, count)...) }

// invalid returns strings that are not canonical.
func invalid() []api.Nat {
	return []api.Nat{
		"\x00", "\x00\x05", "\x00" + bytes(api.MaxBytes-1, "\xff"),
		bytes(api.MaxBytes+1, "\xff"), "\x01" + bytes(api.MaxBytes, "\x00"), bytes(1000, "\x07"),
	}
}

// operation is a function modulo m, with its definition for a modulus that is not 0; no result stands for ErrNone.
type operation struct {
	name string
	call func(a, b, m api.Nat) (api.Nat, api.Errno)
	def  func(a, b, m *big.Int) *big.Int
}

func operations() []operation {
	return []operation{
		{"Add", modular.Add, func(a, b, m *big.Int) *big.Int { return new(big.Int).Add(a, b) }},
		{"Sub", modular.Sub, func(a, b, m *big.Int) *big.Int { return new(big.Int).Sub(a, b) }},
		{"Mul", modular.Mul, func(a, b, m *big.Int) *big.Int { return new(big.Int).Mul(a, b) }},
		{"Exp", modular.Exp, func(a, b, m *big.Int) *big.Int { return new(big.Int).Exp(a, b, m) }},
		{"Power", func(a, b, m api.Nat) (api.Nat, api.Errno) {
			return modular.Power(a, api.Int{Abs: b}, m)
		}, func(a, b, m *big.Int) *big.Int { return new(big.Int).Exp(a, b, m) }},
		{"Power of a negative exponent", func(a, b, m api.Nat) (api.Nat, api.Errno) {
			return modular.Power(a, api.Int{Neg: b != "", Abs: b}, m)
		}, func(a, b, m *big.Int) *big.Int {
			if b.Sign() == 0 {
				return big.NewInt(1)
			}
			x := inverse(a, m)
			if x == nil {
				return nil
			}
			return x.Exp(x, b, m)
		}},
		{"Inverse", func(a, _, m api.Nat) (api.Nat, api.Errno) { return modular.Inverse(a, m) }, func(a, _, m *big.Int) *big.Int { return inverse(a, m) }},
	}
}

// inverse returns the inverse of a modulo m, or nil; modulo 1 it is 0.
func inverse(a, m *big.Int) *big.Int {
	if m.Cmp(big.NewInt(1)) == 0 {
		return new(big.Int)
	}
	return new(big.Int).ModInverse(a, m)
}

// expect returns the result and the error that the definition of an operation asks for.
func (o operation) expect(a, b, m api.Nat) (api.Nat, api.Errno) {
	if m == "" {
		return "", api.ErrZero
	}
	n := o.def(toBig(a), toBig(b), toBig(m))
	if n == nil {
		return "", api.ErrNone
	}
	return fromBig(n.Mod(n, toBig(m))), api.OK
}

// check compares an operation with its definition.
func (o operation) check(t *testing.T, a, b, m api.Nat) {
	t.Helper()
	want, wantErr := o.expect(a, b, m)
	if got, err := o.call(a, b, m); got != want || err != wantErr {
		t.Fatalf("%s of %q and %q modulo %q is %q and %d, want %q and %d", o.name, a, b, m, got, err, want, wantErr)
	}
}

func TestP3_1Operations(t *testing.T) {
	for i, o := range operations() {
		l := samples(int64(i), 40)
		for j, a := range l {
			for k := j % 3; k < len(l); k += 3 {
				o.check(t, a, l[(3*j+k)%len(l)], l[k])
			}
		}
	}
}

// TestP3_1Small calculates with all small numbers, also with those that are not below the modulus.
func TestP3_1Small(t *testing.T) {
	for _, o := range operations() {
		for a := range uint64(14) {
			for b := range uint64(14) {
				for m := range uint64(14) {
					o.check(t, natural.Of(a), natural.Of(b), natural.Of(m))
				}
			}
		}
	}
}

// TestP3_1Long multiplies numbers whose products are longer than 128 bytes.
func TestP3_1Long(t *testing.T) {
	max := bytes(api.MaxBytes, "\xff")
	l := append(random(20, 300), max)
	for _, o := range operations()[:3] {
		for i, a := range l {
			for _, m := range []api.Nat{max, max[:api.MaxBytes-1] + "\xfe", "\x80" + bytes(api.MaxBytes-1, "\x00"), bytes(64, "\xff"), "\x01" + bytes(64, "\x00"), l[(7*i)%len(l)]} {
				o.check(t, a, max, m)
				o.check(t, a, l[(5*i+1)%len(l)], m)
			}
		}
	}
}

// TestP3_1Division reduces numbers for which the first guess of a word of the quotient is too large.
func TestP3_1Division(t *testing.T) {
	l := random(21, 400)
	for i, a := range l {
		for j := range 12 {
			operations()[2].check(t, a, l[(i+31*j)%len(l)], l[(3*i+17*j)%len(l)])
		}
	}
}

func TestP3_1Invalid(t *testing.T) {
	for _, o := range operations()[:4] {
		for _, bad := range invalid() {
			// ErrForm comes before ErrZero.
			for _, a := range append(invalid(), "", "\x05", bytes(api.MaxBytes, "\xff")) {
				for _, b := range []api.Nat{"", "\x05", bad} {
					for _, p := range [][3]api.Nat{{bad, a, b}, {a, bad, b}, {a, b, bad}} {
						if got, err := o.call(p[0], p[1], p[2]); got != "" || err != api.ErrForm {
							t.Errorf("%s of %q and %q modulo %q is %q and %d, want ErrForm", o.name, p[0], p[1], p[2], got, err)
						}
					}
				}
			}
		}
	}
}

func TestP3_1InverseInvalid(t *testing.T) {
	for _, bad := range invalid() {
		for _, a := range []api.Nat{"", "\x05", bytes(api.MaxBytes, "\xff"), bad} {
			for _, p := range [][2]api.Nat{{bad, a}, {a, bad}} {
				if got, err := modular.Inverse(p[0], p[1]); got != "" || err != api.ErrForm {
					t.Errorf("Inverse of %q modulo %q is %q and %d, want ErrForm", p[0], p[1], got, err)
				}
			}
		}
	}
}

func TestP3_1PowerInvalid(t *testing.T) {
	// A negative 0 is no integer.
	exponents := []api.Int{{Neg: true}}
	for _, bad := range invalid() {
		exponents = append(exponents, api.Int{Abs: bad}, api.Int{Neg: true, Abs: bad})
		for _, e := range []api.Int{{}, integer.Of(3), integer.Of(-3), {Neg: true}} {
			for _, a := range []api.Nat{"", "\x02", bad} {
				for _, p := range [][2]api.Nat{{bad, a}, {a, bad}} {
					if got, err := modular.Power(p[0], e, p[1]); got != "" || err != api.ErrForm {
						t.Errorf("Power of %q and %v modulo %q is %q and %d, want ErrForm", p[0], e, p[1], got, err)
					}
				}
			}
		}
	}
	for _, e := range exponents {
		for _, m := range []api.Nat{"", "\x01", "\x07"} {
			if got, err := modular.Power("\x03", e, m); got != "" || err != api.ErrForm {
				t.Errorf("Power of 3 and %v modulo %q is %q and %d, want ErrForm", e, m, got, err)
			}
		}
	}
}

func TestP3_1Examples(t *testing.T) {
	power := func(e int64) func(a, _, m api.Nat) (api.Nat, api.Errno) {
		return func(a, _, m api.Nat) (api.Nat, api.Errno) { return modular.Power(a, integer.Of(e), m) }
	}
	inverse := func(a, _, m api.Nat) (api.Nat, api.Errno) { return modular.Inverse(a, m) }
	for _, c := range []struct {
		what    string
		call    func(a, b, m api.Nat) (api.Nat, api.Errno)
		a, b, m uint64
		want    uint64
		err     api.Errno
	}{
		{"Sub", modular.Sub, 2, 5, 7, 4, api.OK},
		{"Exp", modular.Exp, 3, 4, 7, 4, api.OK},
		{"Exp", modular.Exp, 5, 0, 1, 0, api.OK},
		{"Exp", modular.Exp, 0, 0, 7, 1, api.OK},
		{"Exp", modular.Exp, 0, 0, 0, 0, api.ErrZero},
		{"Power -1", power(-1), 3, 0, 7, 5, api.OK},
		{"Power -1", power(-1), 10, 0, 7, 5, api.OK},
		{"Power -3", power(-3), 6, 0, 9, 0, api.ErrNone},
		{"Power -3", power(-3), 0, 0, 9, 0, api.ErrNone},
		{"Power -3", power(-3), 0, 0, 1, 0, api.OK},
		{"Power 0", power(0), 6, 0, 9, 1, api.OK},
		{"Power 2", power(2), 6, 0, 9, 0, api.OK},
		{"Power -1", power(-1), 6, 0, 0, 0, api.ErrZero},
		{"Power 1", power(1), 6, 0, 0, 0, api.ErrZero},
		{"Inverse", inverse, 10, 0, 7, 5, api.OK},
		{"Inverse", inverse, 6, 0, 9, 0, api.ErrNone},
		{"Inverse", inverse, 0, 0, 9, 0, api.ErrNone},
		{"Inverse", inverse, 0, 0, 1, 0, api.OK},
		{"Inverse", inverse, 6, 0, 1, 0, api.OK},
		{"Inverse", inverse, 1, 0, 0, 0, api.ErrZero},
		{"Add", modular.Add, 11, 7, 15, 3, api.OK},
		{"Sub", modular.Sub, 2, 11, 15, 6, api.OK},
		{"Mul", modular.Mul, 11, 7, 15, 2, api.OK},
		{"Exp", modular.Exp, 2, 10, 15, 4, api.OK},
		{"Inverse", inverse, 2, 0, 15, 8, api.OK},
		{"Inverse", inverse, 3, 0, 15, 0, api.ErrNone},
	} {
		if got, err := c.call(natural.Of(c.a), natural.Of(c.b), natural.Of(c.m)); got != natural.Of(c.want) || err != c.err {
			t.Errorf("%s of %d and %d modulo %d is %q and %d, want %d and %d", c.what, c.a, c.b, c.m, got, err, c.want, c.err)
		}
	}
}
