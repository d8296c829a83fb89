package hash_test

import (
	"crypto/hmac"
	"crypto/sha256"
	"encoding/hex"
	"math/rand"
	"strings"
	"testing"

	"domino/hash"
)

// random returns a string of n bytes.
func random(r *rand.Rand, n int) string {
	out := make([]byte, n)
	r.Read(out)
	return string(out)
}

// lengths returns the lengths of messages around which the padding changes, and those of several blocks.
func lengths() []int {
	var l []int
	for n := range 3 * 64 {
		l = append(l, n)
	}
	for _, blocks := range []int{3, 4, 8, 16, 1000} {
		for _, d := range []int{-9, -8, -1, 0, 1} {
			l = append(l, 64*blocks+d)
		}
	}
	return l
}

func TestP5_1SumOfKnownMessages(t *testing.T) {
	for _, c := range []struct{ s, sum string }{
		{"", "e3b0c44298fc1c149afbf4c8996fb92427ae41e4649b934ca495991b7852b855"},
		{"abc", "ba7816bf8f01cfea414140de5dae2223b00361a396177a9cb410ff61f20015ad"},
		{"abcdbcdecdefdefgefghfghighijhijkijkljklmklmnlmnomnopnopq", "248d6a61d20638b8e5c026930c3e6039a33ce45964ff2167f6ecedd419db06c1"},
		{strings.Repeat("a", 1000000), "cdc76e5c9914fb9281a1c7e284d73e67f1809a48a497200e046d39ccc7112cd0"},
	} {
		if got := hash.Hex(hash.Sum(c.s)); got != c.sum {
			t.Errorf("the hash of a message of %d bytes is %s, want %s", len(c.s), got, c.sum)
		}
	}
}

func TestP5_1SumOfAllLengths(t *testing.T) {
	r := rand.New(rand.NewSource(51))
	for _, n := range lengths() {
		for _, s := range []string{random(r, n), strings.Repeat("\x00", n), strings.Repeat("\xff", n)} {
			want := sha256.Sum256([]byte(s))
			if got := hash.Sum(s); got != string(want[:]) {
				t.Errorf("the hash of %d bytes %q.. is %x, want %x", n, s[:min(n, 8)], got, want)
			}
		}
	}
}

func TestP5_1Hex(t *testing.T) {
	for _, c := range []struct{ s, hex string }{{"", ""}, {"\x00", "00"}, {"\x00\x0f\xa0", "000fa0"}, {"az", "617a"}, {"\xff\x10\x01", "ff1001"}, {"é", "c3a9"}} {
		if got := hash.Hex(c.s); got != c.hex {
			t.Errorf("Hex(%q) is %q, want %q", c.s, got, c.hex)
		}
	}
	var all []byte
	for b := range 256 {
		all = append(all, byte(b))
		if got, want := hash.Hex(string(all[b:])), hex.EncodeToString(all[b:]); got != want {
			t.Errorf("Hex of the byte %d is %q, want %q", b, got, want)
		}
	}
	if got, want := hash.Hex(string(all)), hex.EncodeToString(all); got != want {
		t.Errorf("Hex of all bytes is %q", got)
	}
}

func TestP5_2MacOfKnownMessages(t *testing.T) {
	for _, c := range []struct{ key, s, code string }{
		{"", "", "b613679a0814d9ec772f95d778c35fc5ff1697c493715653c6c712144292c5ad"},
		{"Jefe", "what do ya want for nothing?", "5bdcc146bf60754e6a042426089575c75a003f089d2739839dec58b964ec3843"},
		{strings.Repeat("\x0b", 20), "Hi There", "b0344c61d8db38535ca8afceaf0bf12b881dc200c9833da726e9376c2e32cff7"},
		{strings.Repeat("\xaa", 131), "Test Using Larger Than Block-Size Key - Hash Key First", "60e431591ee0b67f0d8a26aacbf5b77f8e0bc6213728c5140546040f0ee37f54"},
	} {
		if got := hash.Hex(hash.Mac(c.key, c.s)); got != c.code {
			t.Errorf("the code of %q for the key %q is %s, want %s", c.s, c.key, got, c.code)
		}
	}
}

// code returns the code of s for a key, by the library.
func code(key, s string) string {
	m := hmac.New(sha256.New, []byte(key))
	m.Write([]byte(s))
	return string(m.Sum(nil))
}

func TestP5_2MacOfAllLengths(t *testing.T) {
	r := rand.New(rand.NewSource(52))
	for _, k := range []int{0, 1, 2, 31, 32, 33, 55, 56, 62, 63, 64, 65, 66, 127, 128, 129, 1000} {
		key := random(r, k)
		for _, n := range lengths() {
			s := random(r, n)
			if got, want := hash.Mac(key, s), code(key, s); got != want {
				t.Errorf("the code of %d bytes for a key of %d bytes is %x, want %x", n, k, got, want)
			}
		}
	}
}

func TestP5_2MacOfPaddedKeys(t *testing.T) {
	// Keys that differ in zero bytes at the end alone have the same codes, as far as they are not hashed.
	for _, k := range []int{0, 1, 63, 64} {
		key := strings.Repeat("k", k)
		whole := key + strings.Repeat("\x00", 64-k)
		if hash.Mac(key, "message") != hash.Mac(whole, "message") {
			t.Errorf("a key of %d bytes is not padded with zero bytes", k)
		}
		if long := whole + "\x00"; hash.Mac(long, "message") != hash.Mac(hash.Sum(long), "message") {
			t.Errorf("a key of %d bytes is not hashed", len(long))
		}
	}
}
