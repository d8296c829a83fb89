package transcript_test

import (
	"math/big"
	"math/rand"
	"testing"

	"domino/api"
	"domino/natural"
	"domino/transcript"
)

// challenge is the definition of the challenge of a state for a canonical bound that is not 0.
func challenge(state string, bound api.Nat) api.Nat {
	bytes := ""
	for k := byte(0); k < 8; k++ {
		bytes += hashOf('C', state, "\x00\x00\x00\x00\x00\x00\x00"+string([]byte{k}))
	}
	n := new(big.Int).SetBytes([]byte(bytes[:len(bound)+8]))
	return api.Nat(n.Mod(n, new(big.Int).SetBytes([]byte(bound))).Bytes())
}

// challenged checks Challenge, which returns no number beside an error.
func challenged(t *testing.T, state string, bound, want api.Nat, err api.Errno) {
	t.Helper()
	if got, e := transcript.Challenge(state, bound); got != want || e != err {
		t.Errorf("the challenge of %x for %x is %x, %d; want %x, %d", state, bound, got, e, want, err)
	}
}

func TestP12_1ChallengeOfAllLengths(t *testing.T) {
	r := rand.New(rand.NewSource(122))
	states := []string{"", "a", transcript.New("a"), random(r, 100)}
	for n := 1; n <= 128; n++ {
		bits := uint(8 * n)
		for _, bound := range []api.Nat{power(bits-8, 0), power(bits-8, 5), power(bits-1, 0), power(bits-1, -1), power(bits-1, 1), power(bits, -1), power(bits, -2), api.Nat("\x2a" + random(r, n-1))} {
			if bound == "" {
				continue
			}
			for _, state := range states {
				challenged(t, state, bound, challenge(state, bound), api.OK)
			}
		}
	}
}

// TestP12_1ChallengeOfManyStates finds states whose bytes begin with zero bytes, or have them where the number is divided.
func TestP12_1ChallengeOfManyStates(t *testing.T) {
	for i := range 3000 {
		state := transcript.New(string(of(uint64(i))))
		for _, bound := range []api.Nat{of(2), of(11), of(255), of(256), of(1 << 16), of(1<<40 + 7), power(192, -1), power(256, -9)} {
			challenged(t, state, bound, challenge(state, bound), api.OK)
		}
	}
}

func TestP12_1ChallengeOfSmallBounds(t *testing.T) {
	for _, state := range texts() {
		challenged(t, state, of(1), "", api.OK)
		for bound := uint64(1); bound < 300; bound++ {
			challenged(t, state, of(bound), challenge(state, of(bound)), api.OK)
		}
	}
}

func TestP12_1ChallengeErrors(t *testing.T) {
	for _, state := range texts() {
		challenged(t, state, "", "", api.ErrZero)
		for _, bound := range invalid() {
			challenged(t, state, bound, "", api.ErrForm)
		}
	}
}

func TestP12_2Challenges(t *testing.T) {
	found := map[api.Nat]int{}
	r := rand.New(rand.NewSource(123))
	for i := range 3000 {
		state := transcript.New(string(of(uint64(i))))
		bound := api.Nat("\x01" + random(r, r.Intn(128)))
		if c, err := transcript.Challenge(state, bound); err != api.OK || natural.Cmp(c, bound) >= 0 || !natural.Valid(c) {
			t.Errorf("the challenge for %x is %x, %d", bound, c, err)
		}
		c, _ := transcript.Challenge(state, of(10))
		found[c]++
	}
	// All challenges are possible, and nearly equally likely.
	for c := range uint64(10) {
		if n := found[of(c)]; n < 200 || n > 400 {
			t.Errorf("%d is %d of 3000 challenges", c, n)
		}
	}
}
