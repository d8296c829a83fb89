package natural_test

import (
	"math"
	"math/big"
	"math/rand"
	"strings"
	"testing"

	"domino/api"
	"domino/natural"
)

// toBig returns the number of a string, canonical or not.
func toBig(a api.Nat) *big.Int { return new(big.Int).SetBytes([]byte(a)) }

// fromBig returns the canonical string of a number, or ErrLong.
func fromBig(n *big.Int) (api.Nat, api.Errno) {
	if len(n.Bytes()) > api.MaxBytes {
		return "", api.ErrLong
	}
	return api.Nat(n.Bytes()), api.OK
}

// bytes returns a string of n bytes b.
func bytes(n int, b string) api.Nat { return api.Nat(strings.Repeat(b, n)) }

// edges returns numbers at the borders of bytes, of words and of the greatest length.
func edges() []api.Nat {
	l := []api.Nat{""}
	for _, bits := range []uint{0, 1, 2, 7, 8, 9, 15, 16, 24, 31, 32, 33, 63, 64, 65, 96, 128, 512, 1008, 1015, 1016, 1017, 1023} {
		n := new(big.Int).Lsh(big.NewInt(1), bits)
		for _, d := range []int64{-1, 0, 1} {
			l = append(l, api.Nat(new(big.Int).Add(n, big.NewInt(d)).Bytes()))
		}
	}
	max := bytes(api.MaxBytes, "\xff")
	return append(l, max, max[:api.MaxBytes-1]+"\xfe", max[1:])
}

// random returns numbers of all lengths; many consist of the least and greatest words, which a division guesses wrongly.
func random(seed int64, count int) []api.Nat {
	r := rand.New(rand.NewSource(seed))
	words := []uint32{0, 1, 2, math.MaxInt32, math.MaxInt32 + 1, math.MaxInt32 + 2, math.MaxUint32 - 1, math.MaxUint32}
	var l []api.Nat
	for range count {
		n := new(big.Int)
		for range r.Intn(33) {
			w := words[r.Intn(len(words))]
			if r.Intn(3) == 0 {
				w = r.Uint32()
			}
			n.Add(n.Lsh(n, 32), big.NewInt(int64(w)))
		}
		l = append(l, api.Nat(n.Rsh(n, uint(r.Intn(32))).Bytes()))
	}
	return l
}

// samples returns edges and random numbers.
func samples(seed int64) []api.Nat { return append(edges(), random(seed, 100)...) }

// invalid returns strings that are not canonical.
func invalid() []api.Nat {
	return []api.Nat{
		"\x00", "\x00\x00", "\x00\x01", "\x00\xff\xff",
		bytes(api.MaxBytes+1, "\xff"), bytes(api.MaxBytes+1, "\x01"), bytes(1000, "\x07"),
		"\x00" + bytes(api.MaxBytes-1, "\xff"), "\x00" + bytes(api.MaxBytes, "\xff"), "\x01" + bytes(api.MaxBytes, "\x00"),
	}
}

func TestP1_1Of(t *testing.T) {
	for _, c := range []struct {
		n uint64
		s api.Nat
	}{{0, ""}, {1, "\x01"}, {255, "\xff"}, {256, "\x01\x00"}, {258, "\x01\x02"}, {65535, "\xff\xff"}, {1 << 56, "\x01\x00\x00\x00\x00\x00\x00\x00"}, {math.MaxUint64, bytes(8, "\xff")}} {
		if got := natural.Of(c.n); got != c.s {
			t.Errorf("Of(%d) is %q, want %q", c.n, got, c.s)
		}
		if n, ok := natural.Small(c.s); n != c.n || !ok {
			t.Errorf("Small(%q) is %d and %v, want %d", c.s, n, ok, c.n)
		}
	}
}

func TestP1_1Small(t *testing.T) {
	for _, a := range samples(1) {
		n, ok := natural.Small(a)
		want := toBig(a)
		if ok != want.IsUint64() || ok && n != want.Uint64() || !ok && n != 0 {
			t.Errorf("Small(%q) is %d and %v", a, n, ok)
		}
	}
	for _, a := range append(invalid(), "\x01"+bytes(8, "\x00")) {
		if n, ok := natural.Small(a); n != 0 || ok {
			t.Errorf("Small(%q) is %d and %v, want 0 and false", a, n, ok)
		}
	}
}

func TestP1_1Valid(t *testing.T) {
	for _, a := range append(samples(2), bytes(api.MaxBytes, "\x01"), "\x80"+bytes(api.MaxBytes-1, "\x00")) {
		if !natural.Valid(a) {
			t.Errorf("Valid(%q) is false", a)
		}
	}
	for _, a := range invalid() {
		if natural.Valid(a) {
			t.Errorf("Valid(%q) is true", a)
		}
	}
}

func TestP1_1Cmp(t *testing.T) {
	l := samples(3)
	for _, a := range l {
		for _, b := range l {
			if got, want := natural.Cmp(a, b), toBig(a).Cmp(toBig(b)); got != want {
				t.Errorf("Cmp(%q, %q) is %d, want %d", a, b, got, want)
			}
		}
		for _, b := range invalid() {
			if natural.Cmp(a, b) != 0 || natural.Cmp(b, a) != 0 || natural.Cmp(b, b) != 0 || natural.Cmp(b, "\x00\x07") != 0 {
				t.Errorf("Cmp of %q and %q is not 0", a, b)
			}
		}
	}
}

func TestP1_1Bits(t *testing.T) {
	for _, a := range samples(4) {
		n := toBig(a)
		if got, want := natural.Bits(a), n.BitLen(); got != want {
			t.Errorf("Bits(%q) is %d, want %d", a, got, want)
		}
		for i := range 8*api.MaxBytes + 20 {
			if got, want := natural.Bit(a, i), n.Bit(i) == 1; got != want {
				t.Errorf("Bit(%q, %d) is %v, want %v", a, i, got, want)
			}
		}
		for _, i := range []int{-1, -8, math.MinInt, math.MaxInt, 8 * len(a)} {
			if natural.Bit(a, i) {
				t.Errorf("Bit(%q, %d) is true", a, i)
			}
		}
	}
	for _, a := range invalid() {
		if n := natural.Bits(a); n != 0 {
			t.Errorf("Bits(%q) is %d, want 0", a, n)
		}
		for i := -1; i < 8*len(a)+1; i++ {
			if natural.Bit(a, i) {
				t.Errorf("Bit(%q, %d) is true", a, i)
			}
		}
	}
}

// operation is a function of two numbers, with its definition for numbers of any length.
type operation struct {
	name string
	call func(a, b api.Nat) (api.Nat, api.Errno)
	def  func(a, b *big.Int) (*big.Int, api.Errno)
}

func operations() []operation {
	return []operation{
		{"Add", natural.Add, func(a, b *big.Int) (*big.Int, api.Errno) { return new(big.Int).Add(a, b), api.OK }},
		{"Mul", natural.Mul, func(a, b *big.Int) (*big.Int, api.Errno) { return new(big.Int).Mul(a, b), api.OK }},
		{"Sub", natural.Sub, func(a, b *big.Int) (*big.Int, api.Errno) {
			if a.Cmp(b) < 0 {
				return new(big.Int), api.ErrRange
			}
			return new(big.Int).Sub(a, b), api.OK
		}},
		{"quotient", func(a, b api.Nat) (api.Nat, api.Errno) { q, _, e := natural.DivMod(a, b); return q, e }, func(a, b *big.Int) (*big.Int, api.Errno) {
			if b.Sign() == 0 {
				return new(big.Int), api.ErrZero
			}
			return new(big.Int).Quo(a, b), api.OK
		}},
		{"remainder", func(a, b api.Nat) (api.Nat, api.Errno) { _, r, e := natural.DivMod(a, b); return r, e }, func(a, b *big.Int) (*big.Int, api.Errno) {
			if b.Sign() == 0 {
				return new(big.Int), api.ErrZero
			}
			return new(big.Int).Rem(a, b), api.OK
		}},
		{"Gcd", natural.Gcd, func(a, b *big.Int) (*big.Int, api.Errno) { return new(big.Int).GCD(nil, nil, a, b), api.OK }},
	}
}

func TestP1_2Operations(t *testing.T) {
	l := samples(5)
	for _, o := range operations() {
		for _, a := range l {
			for _, b := range l {
				n, wantErr := o.def(toBig(a), toBig(b))
				want := api.Nat("")
				if wantErr == api.OK {
					want, wantErr = fromBig(n)
				}
				if got, err := o.call(a, b); got != want || err != wantErr {
					t.Fatalf("%s of %q and %q is %q and %d, want %q and %d", o.name, a, b, got, err, want, wantErr)
				}
			}
		}
	}
}

func TestP1_2Invalid(t *testing.T) {
	for _, o := range operations() {
		for _, bad := range invalid() {
			// ErrForm comes before ErrZero, ErrRange and ErrLong.
			for _, a := range []api.Nat{"", "\x05", bytes(api.MaxBytes, "\xff"), bad} {
				for _, p := range [][2]api.Nat{{a, bad}, {bad, a}} {
					if got, err := o.call(p[0], p[1]); got != "" || err != api.ErrForm {
						t.Errorf("%s of %q and %q is %q and %d, want ErrForm", o.name, p[0], p[1], got, err)
					}
				}
			}
		}
	}
}

// TestP1_2Division divides by numbers for which the first guess of a digit of the quotient is too large.
func TestP1_2Division(t *testing.T) {
	for _, a := range random(6, 1500) {
		for _, b := range random(int64(len(a)), 20) {
			if b == "" {
				continue
			}
			x, y := toBig(a), toBig(b)
			q, r, err := natural.DivMod(a, b)
			if err != api.OK || q != api.Nat(new(big.Int).Quo(x, y).Bytes()) || r != api.Nat(new(big.Int).Rem(x, y).Bytes()) {
				t.Fatalf("DivMod(%q, %q) is %q, %q and %d", a, b, q, r, err)
			}
		}
	}
}

func TestP1_2Lengths(t *testing.T) {
	max, one := bytes(api.MaxBytes, "\xff"), natural.Of(1)
	half := "\x01" + bytes(api.MaxBytes/2, "\x00") // 2^512
	for _, c := range []struct {
		what string
		got  outcome
		want outcome
	}{
		{"max + 0", outcomeOf(natural.Add(max, "")), outcome{max, api.OK}},
		{"max + 1", outcomeOf(natural.Add(max, one)), outcome{"", api.ErrLong}},
		{"1 + max", outcomeOf(natural.Add(one, max)), outcome{"", api.ErrLong}},
		{"max + max", outcomeOf(natural.Add(max, max)), outcome{"", api.ErrLong}},
		{"max * 1", outcomeOf(natural.Mul(max, one)), outcome{max, api.OK}},
		{"max * 0", outcomeOf(natural.Mul(max, "")), outcome{"", api.OK}},
		{"max * 2", outcomeOf(natural.Mul(max, natural.Of(2))), outcome{"", api.ErrLong}},
		{"max * max", outcomeOf(natural.Mul(max, max)), outcome{"", api.ErrLong}},
		{"2^512 * 2^512", outcomeOf(natural.Mul(half, half)), outcome{"", api.ErrLong}},
		{"2^512 * (2^512 - 1)", outcomeOf(natural.Mul(half, bytes(64, "\xff"))), outcome{bytes(64, "\xff") + bytes(64, "\x00"), api.OK}},
		{"max - max", outcomeOf(natural.Sub(max, max)), outcome{"", api.OK}},
		{"0 - 1", outcomeOf(natural.Sub("", one)), outcome{"", api.ErrRange}},
		{"0 - 0", outcomeOf(natural.Sub("", "")), outcome{"", api.OK}},
		{"Gcd of 0 and 0", outcomeOf(natural.Gcd("", "")), outcome{"", api.OK}},
		{"Gcd of max and 0", outcomeOf(natural.Gcd(max, "")), outcome{max, api.OK}},
		{"Gcd of 0 and max", outcomeOf(natural.Gcd("", max)), outcome{max, api.OK}},
		{"Gcd of 84 and 36", outcomeOf(natural.Gcd(natural.Of(84), natural.Of(36))), outcome{natural.Of(12), api.OK}},
		{"65535 * 65537", outcomeOf(natural.Mul(natural.Of(65535), natural.Of(65537))), outcome{bytes(4, "\xff"), api.OK}},
	} {
		if c.got != c.want {
			t.Errorf("%s is %q and %d, want %q and %d", c.what, c.got.value, c.got.err, c.want.value, c.want.err)
		}
	}
}

// outcome is a result with its error.
type outcome struct {
	value api.Nat
	err   api.Errno
}

func outcomeOf(value api.Nat, err api.Errno) outcome { return outcome{value, err} }

func TestP1_2Sqrt(t *testing.T) {
	l := samples(7)
	for i := range 300 {
		l = append(l, natural.Of(uint64(i)))
	}
	for _, a := range random(8, 100) {
		n := toBig(a[:len(a)/2])
		square := n.Mul(n, n)
		for _, d := range []int64{-1, 0, 1} {
			l = append(l, api.Nat(new(big.Int).Add(square, big.NewInt(d)).Bytes()))
		}
	}
	for _, a := range l {
		if !natural.Valid(a) {
			continue
		}
		want := api.Nat(new(big.Int).Sqrt(toBig(a)).Bytes())
		if got, err := natural.Sqrt(a); got != want || err != api.OK {
			t.Errorf("Sqrt(%q) is %q and %d, want %q", a, got, err, want)
		}
	}
	for _, a := range invalid() {
		if got, err := natural.Sqrt(a); got != "" || err != api.ErrForm {
			t.Errorf("Sqrt(%q) is %q and %d, want ErrForm", a, got, err)
		}
	}
}
