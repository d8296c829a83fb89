package prime_test

import (
	"math"
	"slices"
	"testing"

	"domino/api"
	"domino/natural"
	"domino/prime"
)

func TestP4_2NextSmall(t *testing.T) {
	primes := sieve(20100)
	for n := range 20000 {
		want := n + 1
		for !primes[want] {
			want++
		}
		checkNext(t, uint64(n), uint64(want))
	}
}

// checkNext checks Next of a number.
func checkNext(t *testing.T, n, want uint64) {
	t.Helper()
	if got, err := prime.Next(natural.Of(n)); got != natural.Of(want) || err != api.OK {
		t.Errorf("Next(%d) is %q and %d, want %d", n, got, err, want)
	}
}

func TestP4_2NextLarge(t *testing.T) {
	last := uint64(18446744073709551557) // the greatest prime below 2^64
	for _, n := range append(random(10, 300), 1<<32, 1<<40, 1<<63, last-1, last-2, last-24, last-25) {
		if n >= last {
			continue
		}
		want := n + 1
		for !isPrime(want) {
			want++
		}
		checkNext(t, n, want)
	}
	for _, n := range append(long(), natural.Of(last), natural.Of(last+1), natural.Of(math.MaxUint64-1), natural.Of(math.MaxUint64)) {
		if got, err := prime.Next(n); got != "" || err != api.ErrLong {
			t.Errorf("Next(%q) is %q and %d, want ErrLong", n, got, err)
		}
	}
	for _, n := range invalid() {
		if got, err := prime.Next(n); got != "" || err != api.ErrForm {
			t.Errorf("Next(%q) is %q and %d, want ErrForm", n, got, err)
		}
	}
}

// factorable returns numbers from 1 to 2^40 - 1.
func factorable() []uint64 {
	l := []uint64{1<<40 - 1, 1<<40 - 2, 1<<40 - 87, 1 << 39, 1048573 * 1048573, 1048573 * 1048571, 3486784401, 762939453125, 2 * 549755813881, 510510, 200560490130, 65537 * 65537, 65521 * 65537, 4294967291, 4294967297, 41 * 41 * 41, 41 * 43}
	for n := range uint64(3000) {
		l = append(l, n+1)
	}
	for _, n := range append(random(11, 200), pseudoprimes()...) {
		if n %= 1 << 40; n > 0 {
			l = append(l, n)
		}
	}
	return l
}

func TestP4_2Factors(t *testing.T) {
	for _, n := range factorable() {
		var want []api.Nat
		rest := n
		for d := uint64(2); rest > 1; d++ {
			if d*d > rest {
				d = rest
			}
			for rest%d == 0 {
				want = append(want, natural.Of(d))
				rest /= d
			}
		}
		if got, err := prime.Factors(natural.Of(n)); !slices.Equal(got, want) || err != api.OK {
			t.Errorf("Factors(%d) is %q and %d, want %q", n, got, err, want)
		}
	}
}

func TestP4_2FactorsExamples(t *testing.T) {
	for _, c := range []struct {
		n    api.Nat
		want []api.Nat
		err  api.Errno
	}{
		{"\x01", nil, api.OK}, {"\x02", []api.Nat{"\x02"}, api.OK}, {"\x04", []api.Nat{"\x02", "\x02"}, api.OK},
		{natural.Of(360), []api.Nat{"\x02", "\x02", "\x02", "\x03", "\x03", "\x05"}, api.OK},
		{natural.Of(1099511627689), []api.Nat{natural.Of(1099511627689)}, api.OK},
		{"", nil, api.ErrZero}, {natural.Of(1 << 40), nil, api.ErrLong}, {natural.Of(1<<40 + 1), nil, api.ErrLong}, {natural.Of(math.MaxUint64), nil, api.ErrLong},
	} {
		if got, err := prime.Factors(c.n); !slices.Equal(got, c.want) || err != c.err {
			t.Errorf("Factors(%q) is %q and %d, want %q and %d", c.n, got, err, c.want, c.err)
		}
	}
	for _, n := range long() {
		if got, err := prime.Factors(n); len(got) > 0 || err != api.ErrLong {
			t.Errorf("Factors(%q) is %q and %d, want ErrLong", n, got, err)
		}
	}
	for _, n := range invalid() {
		if got, err := prime.Factors(n); len(got) > 0 || err != api.ErrForm {
			t.Errorf("Factors(%q) is %q and %d, want ErrForm", n, got, err)
		}
	}
}

func TestP4_3Product(t *testing.T) {
	for _, n := range factorable() {
		l, _ := prime.Factors(natural.Of(n))
		product := natural.Of(1)
		for _, p := range l {
			if ok, err := prime.Is(p); !ok || err != api.OK {
				t.Errorf("the factor %q of %d is not prime", p, n)
			}
			product, _ = natural.Mul(product, p)
		}
		if product != natural.Of(n) || !slices.IsSortedFunc(l, natural.Cmp) {
			t.Errorf("Factors(%d) is %q", n, l)
		}
	}
}

func TestP4_3Gaps(t *testing.T) {
	for _, n := range append(random(12, 200), 0, 1, 2, 3, 4, 1327, 370261, 20831323) {
		p, err := prime.Next(natural.Of(n))
		if err != api.OK {
			continue
		}
		next, _ := natural.Small(p)
		if next <= n {
			t.Errorf("Next(%d) is %d", n, next)
		}
		for m := n + 1; m <= next; m++ {
			if ok, _ := prime.Is(natural.Of(m)); ok != (m == next) {
				t.Errorf("Next(%d) is %d, but Is(%d) is %v", n, next, m, ok)
			}
		}
	}
}

// TestP4_2FactorsMemory checks that a result is new memory.
func TestP4_2FactorsMemory(t *testing.T) {
	first, _ := prime.Factors(natural.Of(360))
	first[0] = "x"
	if second, _ := prime.Factors(natural.Of(360)); second[0] != "\x02" {
		t.Errorf("Factors(360) begins with %q", second[0])
	}
}
