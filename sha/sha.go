// Package sha is layer 1, SHA-256 and HMAC: see shared/doc/01-sha.md.
package sha

import (
	"math/bits"

	"sawyer/api"
)

const (
	blockSize  = 64
	lengthSize = 8 // bytes that tell at the end how many bits there were
	digits     = "0123456789abcdef"
)

// A state is an array: to take a block is to answer another state, and the one before stays as it was.
type state [8]uint32

var first = state{
	0x6a09e667, 0xbb67ae85, 0x3c6ef372, 0xa54ff53a, 0x510e527f, 0x9b05688c, 0x1f83d9ab, 0x5be0cd19,
}

var table = [blockSize]uint32{
	0x428a2f98, 0x71374491, 0xb5c0fbcf, 0xe9b5dba5, 0x3956c25b, 0x59f111f1, 0x923f82a4, 0xab1c5ed5,
	0xd807aa98, 0x12835b01, 0x243185be, 0x550c7dc3, 0x72be5d74, 0x80deb1fe, 0x9bdc06a7, 0xc19bf174,
	0xe49b69c1, 0xefbe4786, 0x0fc19dc6, 0x240ca1cc, 0x2de92c6f, 0x4a7484aa, 0x5cb0a9dc, 0x76f988da,
	0x983e5152, 0xa831c66d, 0xb00327c8, 0xbf597fc7, 0xc6e00bf3, 0xd5a79147, 0x06ca6351, 0x14292967,
	0x27b70a85, 0x2e1b2138, 0x4d2c6dfc, 0x53380d13, 0x650a7354, 0x766a0abb, 0x81c2c92e, 0x92722c85,
	0xa2bfe8a1, 0xa81a664b, 0xc24b8b70, 0xc76c51a3, 0xd192e819, 0xd6990624, 0xf40e3585, 0x106aa070,
	0x19a4c116, 0x1e376c08, 0x2748774c, 0x34b0bcb5, 0x391c0cb3, 0x4ed8aa4a, 0x5b9cca4f, 0x682e6ff3,
	0x748f82ee, 0x78a5636f, 0x84c87814, 0x8cc70208, 0x90befffa, 0xa4506ceb, 0xbef9a3f7, 0xc67178f2,
}

// Sum is the hash of bytes.
func Sum(b []byte) string {
	// Only the last blocks are laid out anew, so that long bytes aren't copied.
	whole := len(b) - len(b)%blockSize
	s := takeAll(first, b[:whole])
	return text(takeAll(s, ending(b[whole:], len(b))))
}

// Mac is the code of bytes under a key.
func Mac(key, b []byte) string {
	block := keyBlock(key)
	inner := Sum(append(pad(block, 0x36), b...))
	return Sum(append(pad(block, 0x5c), inner...))
}

// Hex is bytes as digits.
func Hex(s string) string {
	out := make([]byte, 0, 2*len(s))
	for i := 0; i < len(s); i++ {
		out = append(out, digits[s[i]>>4], digits[s[i]&15])
	}
	return string(out)
}

// keyBlock is a key's 64 bytes.
func keyBlock(key []byte) [blockSize]byte {
	var block [blockSize]byte
	if len(key) > blockSize {
		copy(block[:], Sum(key))
	} else {
		copy(block[:], key)
	}
	return block
}

// pad is a block's bytes, each of them exclusive or x; the block is a copy, so that both pads come of the same key.
func pad(block [blockSize]byte, x byte) []byte {
	for i := range block {
		block[i] ^= x
	}
	return block[:]
}

// ending is the last blocks: the bytes behind the whole blocks, and what says where all of them end.
func ending(rest []byte, size int) []byte {
	out := make([]byte, 0, 2*blockSize)
	out = append(out, rest...)
	out = append(out, 0x80)
	for len(out)%blockSize != blockSize-lengthSize {
		out = append(out, 0)
	}
	n := uint64(size) * 8
	for shift := 56; shift >= 0; shift -= 8 {
		out = append(out, byte(n>>shift))
	}
	return out
}

// takeAll takes whole blocks, one behind the other.
func takeAll(s state, b []byte) state {
	for i := 0; i+blockSize <= len(b); i += blockSize {
		s = take(s, b[i:i+blockSize])
	}
	return s
}

// take is the state behind a block.
func take(s state, block []byte) state {
	w := words(block)
	a, b, c, d, e, f, g, h := s[0], s[1], s[2], s[3], s[4], s[5], s[6], s[7]
	for t := range w {
		x := h + (turn(e, 6) ^ turn(e, 11) ^ turn(e, 25)) + ((e & f) ^ (^e & g)) + table[t] + w[t]
		y := (turn(a, 2) ^ turn(a, 13) ^ turn(a, 22)) + ((a & b) ^ (a & c) ^ (b & c))
		h, g, f, e = g, f, e, d+x
		d, c, b, a = c, b, a, x+y
	}
	return state{s[0] + a, s[1] + b, s[2] + c, s[3] + d, s[4] + e, s[5] + f, s[6] + g, s[7] + h}
}

// words is a block's 16 words, and the 48 that are made of them.
func words(block []byte) [blockSize]uint32 {
	var w [blockSize]uint32
	for t := 0; t < 16; t++ {
		q := block[4*t : 4*t+4]
		w[t] = uint32(q[0])<<24 | uint32(q[1])<<16 | uint32(q[2])<<8 | uint32(q[3])
	}
	for t := 16; t < len(w); t++ {
		s0 := turn(w[t-15], 7) ^ turn(w[t-15], 18) ^ w[t-15]>>3
		s1 := turn(w[t-2], 17) ^ turn(w[t-2], 19) ^ w[t-2]>>10
		w[t] = w[t-16] + s0 + w[t-7] + s1
	}
	return w
}

// turn moves bits down; those that fall out below come in again above.
func turn(x uint32, n int) uint32 { return bits.RotateLeft32(x, -n) }

// text is a state's bytes.
func text(s state) string {
	out := make([]byte, 0, api.HashSize)
	for _, x := range s {
		out = append(out, byte(x>>24), byte(x>>16), byte(x>>8), byte(x))
	}
	return string(out)
}
