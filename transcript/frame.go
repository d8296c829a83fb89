package transcript

import (
	"strings"

	"domino/hash"
)

// frame collects the bytes of a frame.
type frame struct {
	strings.Builder
}

// begin writes a kind and the number of the strings that follow.
func (f *frame) begin(kind byte, count int) {
	f.WriteByte(kind)
	f.WriteString(eightBytes(count))
}

// add writes strings, each one after its number of bytes.
func (f *frame) add(list ...string) {
	for _, s := range list {
		f.WriteString(eightBytes(len(s)))
		f.WriteString(s)
	}
}

// hashOf returns the hash of the frame of a kind and some strings.
func hashOf(kind byte, list ...string) string {
	var f frame
	f.begin(kind, len(list))
	f.add(list...)
	return hash.Sum(f.String())
}

// hashOfList returns the hash of the frame of a kind, a state, a label, and the bytes of each element of a list.
func hashOfList[T any](kind byte, state, label string, list []T, bytesOf func(T) string) string {
	var f frame
	f.begin(kind, 2+len(list))
	f.add(state, label)
	for _, x := range list {
		f.add(bytesOf(x))
	}
	return hash.Sum(f.String())
}

// eightBytes returns the 8 bytes of a number, the most significant one first.
func eightBytes(n int) string {
	var out [8]byte
	for i := range out {
		out[i] = byte(uint64(n) >> (56 - 8*i))
	}
	return string(out[:])
}
