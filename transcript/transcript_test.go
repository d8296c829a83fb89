package transcript_test

import (
	"crypto/sha256"
	"encoding/binary"
	"math/big"
	"math/rand"
	"slices"
	"strings"
	"testing"

	"domino/api"
	"domino/integer"
	"domino/natural"
	"domino/transcript"
)

// of returns the canonical string of a small number.
func of(n uint64) api.Nat { return natural.Of(n) }

// power returns 2^k + d.
func power(k uint, d int64) api.Nat {
	n := new(big.Int).Lsh(big.NewInt(1), k)
	return api.Nat(n.Add(n, big.NewInt(d)).Bytes())
}

// random returns a string of n bytes.
func random(r *rand.Rand, n int) string {
	out := make([]byte, n)
	r.Read(out)
	return string(out)
}

// invalid returns strings that are not canonical.
func invalid() []api.Nat {
	return []api.Nat{"\x00", "\x00\x05", "\x00\x00", "\x00" + power(1015, 0), power(1024, 0), api.Nat(strings.Repeat("\xff", 200))}
}

// hashOf is the definition of Hash.
func hashOf(kind byte, list ...string) string {
	out := binary.BigEndian.AppendUint64([]byte{kind}, uint64(len(list)))
	for _, s := range list {
		out = binary.BigEndian.AppendUint64(out, uint64(len(s)))
		out = append(out, s...)
	}
	sum := sha256.Sum256(out)
	return string(sum[:])
}

// texts returns states, labels and data of different lengths.
func texts() []string {
	r := rand.New(rand.NewSource(121))
	out := []string{"", "a", "b", "ab", "a label", "\x00", "\x00\x00", "\xff", "é", "世界", strings.Repeat("\x00", 32)}
	for _, n := range []int{31, 32, 33, 55, 64, 255, 256, 257, 65535, 65536, 70000} {
		out = append(out, random(r, n))
	}
	return out
}

// is compares a state with the wanted one.
func is(t *testing.T, what, got, want string) {
	t.Helper()
	if got != want {
		t.Errorf("%s is %x, want %x", what, got, want)
	}
}

func TestP12_1New(t *testing.T) {
	sum := sha256.Sum256([]byte("N\x00\x00\x00\x00\x00\x00\x00\x01\x00\x00\x00\x00\x00\x00\x00\x01a"))
	is(t, "the state of a", transcript.New("a"), string(sum[:]))
	sum = sha256.Sum256([]byte("N\x00\x00\x00\x00\x00\x00\x00\x01\x00\x00\x00\x00\x00\x00\x01\x02" + strings.Repeat("xy", 129)))
	is(t, "the state of 258 bytes", transcript.New(strings.Repeat("xy", 129)), string(sum[:]))
	for _, s := range texts() {
		is(t, "New", transcript.New(s), hashOf('N', s))
	}
}

func TestP12_1Add(t *testing.T) {
	sum := sha256.Sum256([]byte("A\x00\x00\x00\x00\x00\x00\x00\x03\x00\x00\x00\x00\x00\x00\x00\x01s\x00\x00\x00\x00\x00\x00\x00\x00\x00\x00\x00\x00\x00\x00\x00\x02ab"))
	is(t, "the state behind ab", transcript.Add("s", "", "ab"), string(sum[:]))
	for _, state := range texts() {
		for _, label := range texts() {
			is(t, "Add", transcript.Add(state, label, "data"), hashOf('A', state, label, "data"))
			is(t, "Add", transcript.Add("state", label, state), hashOf('A', "state", label, state))
		}
	}
}

// natLists returns lists of numbers, some of which are not canonical.
func natLists() [][]api.Nat {
	out := [][]api.Nat{nil, {}, {""}, {"", ""}, {of(5)}, {of(5), ""}, {"", of(5)}, {of(258), of(1 << 40), of(7)}, {power(1024, -1), power(1023, 0)}}
	for _, x := range invalid() {
		out = append(out, []api.Nat{x}, []api.Nat{of(1), x, x, ""})
	}
	for _, n := range []uint64{30, 253, 254, 255, 256, 300} {
		var l []api.Nat
		for i := range n {
			l = append(l, of(i*i))
		}
		out = append(out, l)
	}
	return out
}

func TestP12_1Nats(t *testing.T) {
	sum := sha256.Sum256([]byte("L\x00\x00\x00\x00\x00\x00\x00\x04\x00\x00\x00\x00\x00\x00\x00\x01s\x00\x00\x00\x00\x00\x00\x00\x01l\x00\x00\x00\x00\x00\x00\x00\x02\x01\x02\x00\x00\x00\x00\x00\x00\x00\x00"))
	is(t, "the state behind 258 and 0", transcript.Nats("s", "l", "\x01\x02", ""), string(sum[:]))
	for _, l := range natLists() {
		for _, state := range texts() {
			strs := []string{state, "label"}
			for _, x := range l {
				strs = append(strs, string(x))
			}
			is(t, "Nats", transcript.Nats(state, "label", l...), hashOf('L', strs...))
			strs[0], strs[1] = "state", state
			is(t, "Nats", transcript.Nats("state", state, l...), hashOf('L', strs...))
		}
	}
}

// intLists returns lists of integers, some of which are not valid.
func intLists() [][]api.Int {
	out := [][]api.Int{nil, {}, {{}}, {{}, {}}, {{Neg: true}}, {{Neg: true}, {}}, {integer.Of(5), integer.Of(-5)}, {integer.Of(-258), {}, integer.Of(1 << 40)}}
	for _, l := range natLists() {
		var a, b []api.Int
		for i, x := range l {
			a, b = append(a, api.Int{Abs: x}), append(b, api.Int{Neg: i%2 == 0, Abs: x})
		}
		out = append(out, a, b)
	}
	return out
}

func TestP12_1Ints(t *testing.T) {
	sum := sha256.Sum256([]byte("I\x00\x00\x00\x00\x00\x00\x00\x05\x00\x00\x00\x00\x00\x00\x00\x01s\x00\x00\x00\x00\x00\x00\x00\x01l\x00\x00\x00\x00\x00\x00\x00\x03-\x01\x02\x00\x00\x00\x00\x00\x00\x00\x01+\x00\x00\x00\x00\x00\x00\x00\x02+\x05"))
	is(t, "the state behind -258, 0 and 5", transcript.Ints("s", "l", integer.Of(-258), integer.Of(0), integer.Of(5)), string(sum[:]))
	is(t, "the state behind a negative 0", transcript.Ints("s", "l", api.Int{Neg: true}), hashOf('I', "s", "l", "-"))
	for _, l := range intLists() {
		for _, state := range texts() {
			strs := []string{state, "label"}
			for _, x := range l {
				sign := "+"
				if x.Neg {
					sign = "-"
				}
				strs = append(strs, sign+string(x.Abs))
			}
			is(t, "Ints", transcript.Ints(state, "label", l...), hashOf('I', strs...))
			strs[0], strs[1] = "state", state
			is(t, "Ints", transcript.Ints("state", state, l...), hashOf('I', strs...))
		}
	}
}

// TestP12_1Memory checks that lists are not changed, nor what lies behind them.
func TestP12_1Memory(t *testing.T) {
	nats := append(make([]api.Nat, 0, 6), of(3), of(1), "\x00")
	transcript.Nats("s", "l", nats...)
	if !slices.Equal(nats[:6], []api.Nat{of(3), of(1), "\x00", "", "", ""}) {
		t.Errorf("the numbers became %q", nats[:6])
	}
	ints := append(make([]api.Int, 0, 6), integer.Of(-3), api.Int{Neg: true}, integer.Of(1))
	transcript.Ints("s", "l", ints...)
	if !slices.Equal(ints[:6], []api.Int{integer.Of(-3), {Neg: true}, integer.Of(1), {}, {}, {}}) {
		t.Errorf("the integers became %v", ints[:6])
	}
}
