package prime_test

import (
	"math/big"
	"math/rand"
	"testing"

	"domino/api"
	"domino/natural"
	"domino/prime"
)

// strong returns what Strong should return, word for word as the document defines it.
func strong(n, a *big.Int) bool {
	one, two := big.NewInt(1), big.NewInt(2)
	if n.Cmp(two) == 0 {
		return true
	}
	if n.Bit(0) == 0 || n.Cmp(big.NewInt(3)) < 0 {
		return false
	}
	last := new(big.Int).Sub(n, one)
	s := last.TrailingZeroBits()
	d := new(big.Int).Rsh(last, s)
	if new(big.Int).Mod(a, n).Sign() == 0 || new(big.Int).Exp(a, d, n).Cmp(one) == 0 {
		return true
	}
	for i := range s {
		e := new(big.Int).Lsh(d, i)
		if new(big.Int).Exp(a, e, n).Cmp(last) == 0 {
			return true
		}
	}
	return false
}

// checkStrong compares Strong with its definition.
func checkStrong(t *testing.T, n, a api.Nat) {
	t.Helper()
	if got, err := prime.Strong(n, a); got != strong(toBig(n), toBig(a)) || err != api.OK {
		t.Fatalf("Strong(%q, %q) is %v and %d, want %v", n, a, got, err, !got)
	}
}

func TestP4_1StrongSmall(t *testing.T) {
	for n := range uint64(150) {
		for a := range 2*n + 3 {
			checkStrong(t, natural.Of(n), natural.Of(a))
		}
	}
	for n := range uint64(10000) {
		checkStrong(t, natural.Of(n), natural.Of(2))
	}
}

func TestP4_1StrongExamples(t *testing.T) {
	for _, c := range []struct {
		n, a api.Nat
		want bool
	}{
		{"", "", false}, {"", "\x02", false}, {"\x01", "", false}, {"\x01", "\x02", false}, {"\x02", "", true}, {"\x02", "\x02", true}, {"\x02", "\x03", true},
		{"\x03", "", true}, {"\x03", "\x02", true}, {"\x04", "\x02", false}, {"\x04", "\x04", false}, {"\x04", "", false}, {"\x09", "\x12", true}, {"\x09", "\x02", false}, {"\x09", "\x08", true},
		{natural.Of(2047), "\x02", true}, {natural.Of(2047), "\x03", false},
		{twoTo64(), "\x03", false}, {bytes(api.MaxBytes, "\xff"), bytes(api.MaxBytes, "\xff"), true}, {bytes(api.MaxBytes, "\xff"), "\x03", false}, {bytes(api.MaxBytes, "\xff"), bytes(api.MaxBytes-1, "\xff") + "\xfe", true},
	} {
		if got, err := prime.Strong(c.n, c.a); got != c.want || err != api.OK {
			t.Errorf("Strong(%q, %q) is %v and %d, want %v", c.n, c.a, got, err, c.want)
		}
	}
}

// TestP4_1StrongPseudoprime uses the least number that is not prime, but a strong probable prime to the first twelve primes.
func TestP4_1StrongPseudoprime(t *testing.T) {
	n := decimal("318665857834031151167461")
	for _, a := range []uint64{2, 3, 5, 7, 11, 13, 17, 19, 23, 29, 31, 37, 41} {
		if got, err := prime.Strong(n, natural.Of(a)); got != (a < 41) || err != api.OK {
			t.Errorf("Strong(%q, %d) is %v and %d", n, a, got, err)
		}
	}
	for _, n := range pseudoprimes() {
		for a := range uint64(50) {
			checkStrong(t, natural.Of(n), natural.Of(a))
		}
	}
}

func TestP4_1StrongLong(t *testing.T) {
	r := rand.New(rand.NewSource(2))
	for _, bits := range []int{40, 63, 64, 65, 128, 500, 1024} {
		for range 12 {
			n := new(big.Int).Rand(r, new(big.Int).Lsh(big.NewInt(1), uint(bits)))
			if r.Intn(3) > 0 {
				n.SetBit(n, 0, 1)
			}
			last := new(big.Int).Sub(n, big.NewInt(1))
			for _, a := range []api.Nat{"", "\x01", "\x02", "\x03", fromBig(n), fromBig(last.Abs(last)), fromBig(new(big.Int).Rand(r, new(big.Int).Lsh(big.NewInt(1), 1024)))} {
				checkStrong(t, fromBig(n), a)
			}
		}
	}
}

// longPrimes returns primes of all lengths, among them some with many twos in n - 1.
func longPrimes() []api.Nat {
	var l []api.Nat
	for _, bits := range []uint{89, 127, 521, 607} {
		n := new(big.Int).Lsh(big.NewInt(1), bits)
		l = append(l, fromBig(n.Sub(n, big.NewInt(1))))
	}
	// The greatest primes of 64 and of 128 bytes, and 2^224 - 2^96 + 1.
	for _, n := range []struct {
		bits uint
		less int64
	}{{512, 569}, {1024, 105}} {
		p := new(big.Int).Lsh(big.NewInt(1), n.bits)
		l = append(l, fromBig(p.Sub(p, big.NewInt(n.less))))
	}
	p := new(big.Int).Lsh(big.NewInt(1), 224)
	p.Sub(p, new(big.Int).Lsh(big.NewInt(1), 96))
	return append(l, fromBig(p.Add(p, big.NewInt(1))), natural.Of(3<<30+1), natural.Of(65537), natural.Of(18446744073709551557))
}

func TestP4_3PrimesAreStrong(t *testing.T) {
	r := rand.New(rand.NewSource(3))
	for _, n := range longPrimes() {
		if !toBig(n).ProbablyPrime(20) {
			t.Fatalf("%q is not prime", n)
		}
		for a := range uint64(12) {
			checkProbable(t, n, natural.Of(a))
		}
		for range 5 {
			checkProbable(t, n, fromBig(new(big.Int).Rand(r, new(big.Int).Lsh(big.NewInt(1), 1024))))
		}
	}
	for n, p := range sieve(300) {
		for a := range uint64(2*n + 2) {
			if p {
				checkProbable(t, natural.Of(uint64(n)), natural.Of(a))
			}
		}
	}
}

// checkProbable checks that n is a strong probable prime to the base a.
func checkProbable(t *testing.T, n, a api.Nat) {
	t.Helper()
	if got, err := prime.Strong(n, a); !got || err != api.OK {
		t.Errorf("Strong(%q, %q) is %v and %d, want true", n, a, got, err)
	}
}
