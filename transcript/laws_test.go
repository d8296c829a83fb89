package transcript_test

import (
	"fmt"
	"testing"

	"domino/api"
	"domino/integer"
	"domino/transcript"
)

// collection is states with what they are states of.
type collection map[string]string

// add adds a state, which must have 32 bytes and differ from all others.
func (c collection) add(t *testing.T, state, what string, args ...any) {
	t.Helper()
	what = fmt.Sprintf(what+" of %q", args)
	if len(state) != 32 {
		t.Errorf("%s is a state of %d bytes", what, len(state))
	}
	if other, ok := c[state]; ok {
		t.Errorf("%s has the same state as %s", what, other)
	}
	c[state] = what
}

// parts returns strings that can be put together in several ways, among them a sign and the bytes of a frame.
func parts() []string {
	return []string{"", "a", "b", "ab", "aa", "+a", "-a", "+", "-", "\x00", "\x00a", "a\x00", "\x00\x00\x00\x00\x00\x00\x00\x00", "\x00\x00\x00\x00\x00\x00\x00\x01a", "a\x00\x00\x00\x00\x00\x00\x00\x01a"}
}

// TestP12_2States checks that whatever is said, the states are different.
func TestP12_2States(t *testing.T) {
	c := collection{}
	for _, x := range parts() {
		c.add(t, transcript.New(x), "New", x)
		for _, y := range parts() {
			c.add(t, transcript.Nats(x, y), "Nats", x, y)
			c.add(t, transcript.Ints(x, y), "Ints", x, y)
			for _, z := range parts() {
				c.add(t, transcript.Add(x, y, z), "Add", x, y, z)
				c.add(t, transcript.Nats(x, y, api.Nat(z)), "Nats", x, y, z)
				c.add(t, transcript.Ints(x, y, api.Int{Abs: api.Nat(z)}), "Ints", x, y, "+", z)
				c.add(t, transcript.Ints(x, y, api.Int{Neg: true, Abs: api.Nat(z)}), "Ints", x, y, "-", z)
			}
		}
	}
}

// TestP12_2Lists checks that lists have different states, also where their bytes are divided differently.
func TestP12_2Lists(t *testing.T) {
	c := collection{}
	for _, x := range parts() {
		for _, y := range parts() {
			for _, z := range parts() {
				a, b, d := api.Nat(x), api.Nat(y), api.Nat(z)
				c.add(t, transcript.Nats("s", "l", a, b, d), "Nats", x, y, z)
				c.add(t, transcript.Ints("s", "l", api.Int{Abs: a}, api.Int{Neg: true, Abs: b}, api.Int{Abs: d}), "Ints", x, y, z)
			}
			c.add(t, transcript.Nats("s", "l", api.Nat(x), api.Nat(y)), "Nats", x, y)
			c.add(t, transcript.Ints("s", "l", api.Int{Abs: api.Nat(x)}, api.Int{Neg: true, Abs: api.Nat(y)}), "Ints", x, y)
		}
	}
	for n := range 300 {
		c.add(t, transcript.Nats("s", "l", make([]api.Nat, n+4)...), "Nats", n)
		c.add(t, transcript.Ints("s", "l", make([]api.Int, n+4)...), "Ints", n)
	}
}

// TestP12_2Protocols checks that the order of what is said matters.
func TestP12_2Protocols(t *testing.T) {
	c := collection{}
	steps := func(s string, kind, i int) string {
		label, number := string(rune('a'+i)), int64(i)
		switch kind {
		case 0:
			return transcript.Add(s, label, "data")
		case 1:
			return transcript.Nats(s, label, of(uint64(number)))
		}
		return transcript.Ints(s, label, integer.Of(-number))
	}
	for _, label := range parts() {
		c.add(t, transcript.New(label), "New", label)
		for i := range 9 {
			one := steps(transcript.New(label), i/3, i%3)
			c.add(t, one, "one step", label, i)
			for j := range 9 {
				c.add(t, steps(one, j/3, j%3), "two steps", label, i, j)
			}
		}
	}
	for bound := range 3 {
		a, _ := transcript.Challenge(transcript.Nats("s", "a", of(1), of(2)), of(uint64(1)<<(60+bound)))
		b, _ := transcript.Challenge(transcript.Nats("s", "a", of(2), of(1)), of(uint64(1)<<(60+bound)))
		if a == b {
			t.Errorf("the challenges of different states are both %x", a)
		}
	}
}
