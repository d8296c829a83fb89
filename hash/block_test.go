package hash

import (
	"strings"
	"testing"
)

// TestP5_1Padding checks the end of messages, also of those that are too long for the other tests.
func TestP5_1Padding(t *testing.T) {
	for _, c := range []struct {
		rest   string
		length int
		zeros  int
		bits   string
	}{
		{"", 0, 55, "\x00\x00\x00\x00\x00\x00\x00\x00"},
		{"abc", 3, 52, "\x00\x00\x00\x00\x00\x00\x00\x18"},
		{strings.Repeat("a", 55), 55, 0, "\x00\x00\x00\x00\x00\x00\x01\xb8"},
		{strings.Repeat("a", 56), 56, 63, "\x00\x00\x00\x00\x00\x00\x01\xc0"},
		{strings.Repeat("a", 63), 127, 56, "\x00\x00\x00\x00\x00\x00\x03\xf8"},
		{"", 64, 55, "\x00\x00\x00\x00\x00\x00\x02\x00"},
		{"abc", 1<<29 + 3, 52, "\x00\x00\x00\x01\x00\x00\x00\x18"},
		{strings.Repeat("a", 63), 1<<31 - 1, 56, "\x00\x00\x00\x03\xff\xff\xff\xf8"},
	} {
		want := c.rest + "\x80" + strings.Repeat("\x00", c.zeros) + c.bits
		if got := ending(c.rest, c.length); got != want {
			t.Errorf("a message of %d bytes ends with %q, want %q", c.length, got, want)
		}
	}
}
