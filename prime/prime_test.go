package prime_test

import (
	"math"
	"math/big"
	"math/rand"
	"strings"
	"testing"

	"domino/api"
	"domino/natural"
	"domino/prime"
)

// toBig returns the number of a canonical string.
func toBig(a api.Nat) *big.Int { return new(big.Int).SetBytes([]byte(a)) }

// fromBig returns the canonical string of a number of at most 128 bytes.
func fromBig(n *big.Int) api.Nat { return api.Nat(n.Bytes()) }

// decimal returns the number with a decimal text.
func decimal(s string) api.Nat {
	a, err := natural.Parse(s)
	if err != api.OK {
		panic(s)
	}
	return a
}

// bytes returns a string of n bytes b.
func bytes(n int, b string) api.Nat { return api.Nat(strings.Repeat(b, n)) }

// twoTo64 is the least number that Is, Next and Safe refuse.
func twoTo64() api.Nat { return "\x01" + bytes(8, "\x00") }

// invalid returns strings that are not canonical.
func invalid() []api.Nat {
	return []api.Nat{
		"\x00", "\x00\x05", "\x00" + bytes(7, "\xff"), "\x00" + bytes(8, "\xff"), "\x00" + bytes(api.MaxBytes-1, "\xff"),
		bytes(api.MaxBytes+1, "\xff"), "\x02" + bytes(api.MaxBytes, "\x00"), bytes(1000, "\x07"),
	}
}

// long returns canonical numbers that are at least 2^64.
func long() []api.Nat {
	return []api.Nat{twoTo64(), "\x01" + bytes(7, "\x00") + "\x0d", bytes(9, "\xff"), bytes(api.MaxBytes, "\xff")}
}

// sieve returns, for each number below n, whether it is prime.
func sieve(n int) []bool {
	out := make([]bool, n)
	for i := 2; i < n; i++ {
		out[i] = true
	}
	for i := 2; i*i < n; i++ {
		for j := i * i; out[i] && j < n; j += i {
			out[j] = false
		}
	}
	return out
}

// pseudoprimes returns composite numbers that pass weaker tests: Carmichael numbers, and the least strong pseudoprimes to the first 1, 2, 3, .. primes.
func pseudoprimes() []uint64 {
	return []uint64{
		341, 561, 645, 1105, 1729, 2465, 2821, 6601, 8911, 41041, 825265, 321197185, 5394826801, 232250619601, 9746347772161, 1436697831295441,
		2047, 3277, 4033, 1373653, 25326001, 3215031751, 2152302898747, 3474749660383, 341550071728321, 3825123056546413051,
	}
}

// random returns numbers below 2^64 of all lengths.
func random(seed int64, count int) []uint64 {
	r := rand.New(rand.NewSource(seed))
	var l []uint64
	for range count {
		l = append(l, r.Uint64()>>r.Intn(64))
	}
	return l
}

// isPrime decides by an independent method, which is exact below 2^64.
func isPrime(n uint64) bool { return new(big.Int).SetUint64(n).ProbablyPrime(0) }

// checkIs checks Is and Safe of a number.
func checkIs(t *testing.T, n uint64, isPrime, isSafe bool) {
	t.Helper()
	if got, err := prime.Is(natural.Of(n)); got != isPrime || err != api.OK {
		t.Errorf("Is(%d) is %v and %d, want %v", n, got, err, isPrime)
	}
	if got, err := prime.Safe(natural.Of(n)); got != isSafe || err != api.OK {
		t.Errorf("Safe(%d) is %v and %d, want %v", n, got, err, isSafe)
	}
}

func TestP4_1Small(t *testing.T) {
	primes := sieve(20000)
	for n, p := range primes {
		checkIs(t, uint64(n), p, p && n%2 == 1 && primes[n/2])
	}
}

func TestP4_1Large(t *testing.T) {
	l := append(random(1, 3000), pseudoprimes()...)
	for _, border := range []uint64{1 << 32, 1 << 40, 1 << 63, math.MaxUint64 - 100} {
		for i := range uint64(100) {
			l = append(l, border-i, border+i)
		}
	}
	l = append(l, math.MaxUint64, 18446744073709551557, 18446744073709551533, 18446744073709550147, 18446744073709550663, 4294967291*4294967291, 4294967291*4294967279, 4294967279*4294967279, 2305843009213693951)
	for _, n := range l {
		checkIs(t, n, isPrime(n), isPrime(n) && n%2 == 1 && isPrime(n/2))
	}
}

func TestP4_1SafeLarge(t *testing.T) {
	found := 0
	for n := uint64(math.MaxUint64); found < 2; n -= 4 {
		if isPrime(n) && isPrime(n/2) {
			found++
			checkIs(t, n, true, true)
		}
	}
}

func TestP4_1Pseudoprimes(t *testing.T) {
	for _, n := range pseudoprimes() {
		checkIs(t, n, false, false)
	}
}

func TestP4_1Errors(t *testing.T) {
	for _, a := range invalid() {
		if got, err := prime.Is(a); got || err != api.ErrForm {
			t.Errorf("Is(%q) is %v and %d, want ErrForm", a, got, err)
		}
		if got, err := prime.Safe(a); got || err != api.ErrForm {
			t.Errorf("Safe(%q) is %v and %d, want ErrForm", a, got, err)
		}
		for _, b := range append(invalid(), "", "\x02", "\x03", "\x04", bytes(api.MaxBytes, "\xff")) {
			for _, p := range [][2]api.Nat{{a, b}, {b, a}} {
				if got, err := prime.Strong(p[0], p[1]); got || err != api.ErrForm {
					t.Errorf("Strong(%q, %q) is %v and %d, want ErrForm", p[0], p[1], got, err)
				}
			}
		}
	}
	for _, a := range long() {
		if got, err := prime.Is(a); got || err != api.ErrLong {
			t.Errorf("Is(%q) is %v and %d, want ErrLong", a, got, err)
		}
		if got, err := prime.Safe(a); got || err != api.ErrLong {
			t.Errorf("Safe(%q) is %v and %d, want ErrLong", a, got, err)
		}
	}
}
