package hash

// A message is hashed in blocks of bytes; the last one ends with its length.
const (
	blockBytes  = 64
	blockWords  = blockBytes / wordBytes
	wordBytes   = 4
	wordBits    = 8 * wordBytes
	lengthBytes = 8
	rounds      = 64
)

// state is what the blocks of a message are mixed into.
type state [8]uint32

// initial returns the state before the first block.
func initial() state {
	return state{0x6a09e667, 0xbb67ae85, 0x3c6ef372, 0xa54ff53a, 0x510e527f, 0x9b05688c, 0x1f83d9ab, 0x5be0cd19}
}

// constants returns the constants that the rounds add.
func constants() [rounds]uint32 {
	return [rounds]uint32{
		0x428a2f98, 0x71374491, 0xb5c0fbcf, 0xe9b5dba5, 0x3956c25b, 0x59f111f1, 0x923f82a4, 0xab1c5ed5,
		0xd807aa98, 0x12835b01, 0x243185be, 0x550c7dc3, 0x72be5d74, 0x80deb1fe, 0x9bdc06a7, 0xc19bf174,
		0xe49b69c1, 0xefbe4786, 0x0fc19dc6, 0x240ca1cc, 0x2de92c6f, 0x4a7484aa, 0x5cb0a9dc, 0x76f988da,
		0x983e5152, 0xa831c66d, 0xb00327c8, 0xbf597fc7, 0xc6e00bf3, 0xd5a79147, 0x06ca6351, 0x14292967,
		0x27b70a85, 0x2e1b2138, 0x4d2c6dfc, 0x53380d13, 0x650a7354, 0x766a0abb, 0x81c2c92e, 0x92722c85,
		0xa2bfe8a1, 0xa81a664b, 0xc24b8b70, 0xc76c51a3, 0xd192e819, 0xd6990624, 0xf40e3585, 0x106aa070,
		0x19a4c116, 0x1e376c08, 0x2748774c, 0x34b0bcb5, 0x391c0cb3, 0x4ed8aa4a, 0x5b9cca4f, 0x682e6ff3,
		0x748f82ee, 0x78a5636f, 0x84c87814, 0x8cc70208, 0x90befffa, 0xa4506ceb, 0xbef9a3f7, 0xc67178f2,
	}
}

// ending returns the blocks that end a padded message of length bytes: rest is what follows its whole blocks.
func ending(rest string, length int) string {
	out := make([]byte, len(rest), 2*blockBytes)
	copy(out, rest)
	out = append(out, 128)
	for len(out)%blockBytes != blockBytes-lengthBytes {
		out = append(out, 0)
	}
	bits := 8 * uint64(length)
	for i := range lengthBytes {
		out = append(out, byte(bits>>(8*(lengthBytes-1-i))))
	}
	return string(out)
}

// after returns the state after the given blocks.
func (s state) after(blocks string) state {
	k := constants()
	for at := 0; at < len(blocks); at += blockBytes {
		w := schedule(blocks[at : at+blockBytes])
		before := s
		s = s.mixed(&w, &k)
		for i := range s {
			s[i] += before[i]
		}
	}
	return s
}

// schedule returns the words of a block and those that are computed from them.
func schedule(block string) [rounds]uint32 {
	var w [rounds]uint32
	for i := range blockBytes {
		w[i/wordBytes] = w[i/wordBytes]<<8 | uint32(block[i])
	}
	for i := blockWords; i < rounds; i++ {
		x, y := w[i-15], w[i-2]
		s0 := rotate(x, 7) ^ rotate(x, 18) ^ x>>3
		s1 := rotate(y, 17) ^ rotate(y, 19) ^ y>>10
		w[i] = w[i-16] + s0 + w[i-7] + s1
	}
	return w
}

// mixed returns the state after the rounds with the words w and the constants k.
func (s state) mixed(w, k *[rounds]uint32) state {
	a, b, c, d, e, f, g, h := s[0], s[1], s[2], s[3], s[4], s[5], s[6], s[7]
	for i := range w {
		t := h + (rotate(e, 6) ^ rotate(e, 11) ^ rotate(e, 25)) + (e&f ^ ^e&g) + k[i] + w[i]
		u := (rotate(a, 2) ^ rotate(a, 13) ^ rotate(a, 22)) + (a&b ^ a&c ^ b&c)
		a, b, c, d, e, f, g, h = t+u, a, b, c, d+t, e, f, g
	}
	return state{a, b, c, d, e, f, g, h}
}

// rotate returns x rotated to the right by n bits.
func rotate(x uint32, n int) uint32 {
	return x>>n | x<<(wordBits-n)
}

// text returns the bytes of the state, the most significant one of each word first.
func (s state) text() string {
	out := make([]byte, 0, wordBytes*len(s))
	for _, x := range s {
		out = append(out, byte(x>>24), byte(x>>16), byte(x>>8), byte(x))
	}
	return string(out)
}
