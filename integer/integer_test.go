package integer_test

import (
	"math"
	"math/big"
	"math/rand"
	"strings"
	"testing"

	"domino/api"
	"domino/integer"
	"domino/natural"
)

// toBig returns the number of an integer.
func toBig(a api.Int) *big.Int {
	n := new(big.Int).SetBytes([]byte(a.Abs))
	if a.Neg {
		n.Neg(n)
	}
	return n
}

// fromBig returns the integer with a number, or ErrLong.
func fromBig(n *big.Int) (api.Int, api.Errno) {
	if len(n.Bytes()) > api.MaxBytes {
		return api.Int{}, api.ErrLong
	}
	return api.Int{Neg: n.Sign() < 0, Abs: api.Nat(n.Bytes())}, api.OK
}

// bytes returns a string of n bytes b.
func bytes(n int, b string) api.Nat { return api.Nat(strings.Repeat(b, n)) }

// magnitudes returns numbers at the borders of bytes, of words and of the greatest length, and random ones.
func magnitudes(seed int64) []api.Nat {
	l := []api.Nat{"", bytes(api.MaxBytes, "\xff"), "\x80" + bytes(api.MaxBytes-1, "\x00"), "\x01" + bytes(api.MaxBytes/2, "\x00"), bytes(api.MaxBytes/2, "\xff")}
	for i := range 12 {
		l = append(l, natural.Of(uint64(i)))
	}
	for _, bits := range []uint{8, 31, 32, 63, 64, 500} {
		n := new(big.Int).Lsh(big.NewInt(1), bits)
		for _, d := range []int64{-1, 0, 1} {
			l = append(l, api.Nat(new(big.Int).Add(n, big.NewInt(d)).Bytes()))
		}
	}
	r := rand.New(rand.NewSource(seed))
	for i := range 25 {
		b := make([]byte, 1+r.Intn(api.MaxBytes))
		r.Read(b)
		b[0] |= 1
		l = append(l, api.Nat(b), natural.Of(uint64(r.Intn(100*i+20))))
	}
	return l
}

// samples returns integers of both signs.
func samples(seed int64) []api.Int {
	var l []api.Int
	for _, m := range magnitudes(seed) {
		l = append(l, api.Int{Abs: m})
		if m != "" {
			l = append(l, api.Int{Neg: true, Abs: m})
		}
	}
	return l
}

// invalidNats returns strings that are not canonical.
func invalidNats() []api.Nat {
	return []api.Nat{"\x00", "\x00\x01", bytes(api.MaxBytes+1, "\xff"), "\x00" + bytes(api.MaxBytes-1, "\x01"), bytes(1000, "\x02")}
}

// invalid returns integers that are not valid.
func invalid() []api.Int {
	l := []api.Int{{Neg: true}}
	for _, m := range invalidNats() {
		l = append(l, api.Int{Abs: m}, api.Int{Neg: true, Abs: m})
	}
	return l
}

func TestP2_1Of(t *testing.T) {
	for _, n := range []int64{0, 1, -1, 255, 256, -256, 1 << 32, -1 << 32, math.MaxInt64, math.MaxInt64 - 1, math.MinInt64, math.MinInt64 + 1} {
		want, _ := fromBig(big.NewInt(n))
		if got := integer.Of(n); got != want {
			t.Errorf("Of(%d) is %v, want %v", n, got, want)
		}
		if got, ok := integer.Small(want); got != n || !ok {
			t.Errorf("Small(%v) is %d and %v, want %d", want, got, ok, n)
		}
	}
}

func TestP2_1Small(t *testing.T) {
	border := natural.Of(1 << 63)
	for _, a := range append(samples(1), api.Int{Abs: border}, api.Int{Neg: true, Abs: border}, api.Int{Neg: true, Abs: natural.Of(1<<63 + 1)}, api.Int{Abs: natural.Of(math.MaxUint64)}, api.Int{Neg: true, Abs: natural.Of(math.MaxUint64)}) {
		n, ok := integer.Small(a)
		want := toBig(a)
		if ok != want.IsInt64() || ok && n != want.Int64() || !ok && n != 0 {
			t.Errorf("Small(%v) is %d and %v", a, n, ok)
		}
	}
	for _, a := range invalid() {
		if n, ok := integer.Small(a); n != 0 || ok {
			t.Errorf("Small(%v) is %d and %v, want 0 and false", a, n, ok)
		}
	}
}

func TestP2_1Valid(t *testing.T) {
	for _, a := range samples(2) {
		if !integer.Valid(a) {
			t.Errorf("Valid(%v) is false", a)
		}
	}
	for _, a := range invalid() {
		if integer.Valid(a) {
			t.Errorf("Valid(%v) is true", a)
		}
	}
}

func TestP2_1From(t *testing.T) {
	for _, a := range magnitudes(3) {
		if got := integer.From(a); got != (api.Int{Abs: a}) {
			t.Errorf("From(%q) is %v", a, got)
		}
	}
	for _, a := range invalidNats() {
		if got := integer.From(a); got != (api.Int{}) {
			t.Errorf("From(%q) is %v, want the zero value", a, got)
		}
	}
}

func TestP2_1Cmp(t *testing.T) {
	l := samples(4)
	for _, a := range l {
		for _, b := range l {
			if got, want := integer.Cmp(a, b), toBig(a).Cmp(toBig(b)); got != want {
				t.Errorf("Cmp(%v, %v) is %d, want %d", a, b, got, want)
			}
		}
		for _, b := range invalid() {
			if integer.Cmp(a, b) != 0 || integer.Cmp(b, a) != 0 || integer.Cmp(b, b) != 0 {
				t.Errorf("Cmp of %v and %v is not 0", a, b)
			}
		}
	}
	for _, a := range invalid() {
		for _, b := range invalid() {
			if integer.Cmp(a, b) != 0 {
				t.Errorf("Cmp of %v and %v is not 0", a, b)
			}
		}
	}
}

func TestP2_1Neg(t *testing.T) {
	for _, a := range samples(5) {
		want, _ := fromBig(new(big.Int).Neg(toBig(a)))
		if got := integer.Neg(a); got != want {
			t.Errorf("Neg(%v) is %v, want %v", a, got, want)
		}
	}
	for _, a := range invalid() {
		if got := integer.Neg(a); got != (api.Int{}) {
			t.Errorf("Neg(%v) is %v, want the zero value", a, got)
		}
	}
}

// operation is a function of two integers, with its definition for integers of any length.
type operation struct {
	name string
	call func(a, b api.Int) (api.Int, api.Errno)
	def  func(a, b *big.Int) (*big.Int, api.Errno)
}

// sums returns the operations without a division.
func sums() []operation {
	return []operation{
		{"Add", integer.Add, func(a, b *big.Int) (*big.Int, api.Errno) { return new(big.Int).Add(a, b), api.OK }},
		{"Sub", integer.Sub, func(a, b *big.Int) (*big.Int, api.Errno) { return new(big.Int).Sub(a, b), api.OK }},
		{"Mul", integer.Mul, func(a, b *big.Int) (*big.Int, api.Errno) { return new(big.Int).Mul(a, b), api.OK }},
	}
}

// divisions returns the parts of DivMod, and Divide; big.Int also divides in the Euclidean way.
func divisions() []operation {
	return []operation{
		{"quotient", func(a, b api.Int) (api.Int, api.Errno) { q, _, e := integer.DivMod(a, b); return q, e }, func(a, b *big.Int) (*big.Int, api.Errno) {
			if b.Sign() == 0 {
				return new(big.Int), api.ErrZero
			}
			return new(big.Int).Div(a, b), api.OK
		}},
		{"remainder", func(a, b api.Int) (api.Int, api.Errno) {
			_, r, e := integer.DivMod(a, b)
			return api.Int{Abs: r}, e
		}, func(a, b *big.Int) (*big.Int, api.Errno) {
			if b.Sign() == 0 {
				return new(big.Int), api.ErrZero
			}
			return new(big.Int).Mod(a, b), api.OK
		}},
		{"Divide", integer.Divide, func(a, b *big.Int) (*big.Int, api.Errno) {
			if b.Sign() == 0 {
				return new(big.Int), api.ErrZero
			}
			q, r := new(big.Int).QuoRem(a, b, new(big.Int))
			if r.Sign() != 0 {
				return new(big.Int), api.ErrArg
			}
			return q, api.OK
		}},
	}
}

// check compares an operation with its definition.
func check(t *testing.T, o operation, a, b api.Int) {
	t.Helper()
	n, wantErr := o.def(toBig(a), toBig(b))
	want := api.Int{}
	if wantErr == api.OK {
		want, wantErr = fromBig(n)
	}
	if got, err := o.call(a, b); got != want || err != wantErr {
		t.Fatalf("%s of %v and %v is %v and %d, want %v and %d", o.name, a, b, got, err, want, wantErr)
	}
}

// checkInvalid calls an operation with arguments that are not valid, beside others that would be errors, too.
func checkInvalid(t *testing.T, o operation) {
	t.Helper()
	max := bytes(api.MaxBytes, "\xff")
	for _, bad := range invalid() {
		for _, a := range []api.Int{{}, integer.Of(5), integer.Of(-5), {Abs: max}, {Neg: true, Abs: max}, bad} {
			for _, p := range [][2]api.Int{{a, bad}, {bad, a}} {
				if got, err := o.call(p[0], p[1]); got != (api.Int{}) || err != api.ErrForm {
					t.Errorf("%s of %v and %v is %v and %d, want ErrForm", o.name, p[0], p[1], got, err)
				}
			}
		}
	}
}

func TestP2_2(t *testing.T) {
	l := samples(6)
	for _, o := range sums() {
		for _, a := range l {
			for _, b := range l {
				check(t, o, a, b)
			}
		}
		checkInvalid(t, o)
	}
}

func TestP2_2Lengths(t *testing.T) {
	max := bytes(api.MaxBytes, "\xff")
	for _, o := range sums() {
		for _, neg := range []bool{false, true} {
			for _, n := range []int64{-2, -1, 0, 1, 2} {
				check(t, o, api.Int{Neg: neg, Abs: max}, integer.Of(n))
				check(t, o, integer.Of(n), api.Int{Neg: neg, Abs: max})
			}
			check(t, o, api.Int{Neg: neg, Abs: max}, api.Int{Abs: max})
			check(t, o, api.Int{Neg: neg, Abs: max}, api.Int{Neg: true, Abs: max})
		}
	}
}

func TestP2_3DivMod(t *testing.T) {
	l := samples(7)
	for _, o := range divisions() {
		for _, a := range l {
			for _, b := range l {
				check(t, o, a, b)
			}
			// A multiple, so that Divide has a result.
			for _, b := range []int64{1, -1, 7, -30} {
				if p, err := integer.Mul(a, integer.Of(b)); err == api.OK {
					check(t, o, p, a)
					check(t, o, p, integer.Of(b))
				}
			}
		}
		checkInvalid(t, o)
	}
}

func TestP2_3Signs(t *testing.T) {
	for _, c := range []struct{ a, b, q, r int64 }{
		{-7, 2, -4, 1}, {-7, -2, 4, 1}, {7, -2, -3, 1}, {7, 2, 3, 1}, {-8, 2, -4, 0}, {-8, -2, 4, 0}, {8, -2, -4, 0}, {0, -2, 0, 0}, {-1, 5, -1, 4}, {-1, -5, 1, 4}, {1, -5, 0, 1}, {-7, 1, -7, 0}, {-7, -1, 7, 0}, {-3, 3, -1, 0}, {-2, 3, -1, 1},
	} {
		q, r, err := integer.DivMod(integer.Of(c.a), integer.Of(c.b))
		if q != integer.Of(c.q) || r != natural.Of(uint64(c.r)) || err != api.OK {
			t.Errorf("DivMod(%d, %d) is %v, %q and %d", c.a, c.b, q, r, err)
		}
	}
	for _, a := range []int64{-1, 0, 1} {
		if q, r, err := integer.DivMod(integer.Of(a), api.Int{}); q != (api.Int{}) || r != "" || err != api.ErrZero {
			t.Errorf("DivMod(%d, 0) is %v, %q and %d, want ErrZero", a, q, r, err)
		}
	}
}

func TestP2_3Mod(t *testing.T) {
	for _, a := range samples(8) {
		for _, m := range magnitudes(9) {
			want, wantErr := api.Nat(""), api.ErrZero
			if m != "" {
				want, wantErr = api.Nat(new(big.Int).Mod(toBig(a), toBig(api.Int{Abs: m})).Bytes()), api.OK
			}
			if got, err := integer.Mod(a, m); got != want || err != wantErr {
				t.Errorf("Mod(%v, %q) is %q and %d, want %q and %d", a, m, got, err, want, wantErr)
			}
		}
	}
	for _, bad := range invalid() {
		for _, m := range append(invalidNats(), "", "\x07") {
			if got, err := integer.Mod(bad, m); got != "" || err != api.ErrForm {
				t.Errorf("Mod(%v, %q) is %q and %d, want ErrForm", bad, m, got, err)
			}
		}
	}
	for _, m := range invalidNats() {
		for _, a := range []int64{-1, 0, 1} {
			if got, err := integer.Mod(integer.Of(a), m); got != "" || err != api.ErrForm {
				t.Errorf("Mod(%d, %q) is %q and %d, want ErrForm", a, m, got, err)
			}
		}
	}
}
