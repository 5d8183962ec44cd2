package sha

import (
	"math/bits"

	"incipit/api"
)

const (
	blockSize  = 64
	roundCount = 64
)

type block [blockSize]byte

// eightWords is what the blocks so far have made.
type eightWords [8]uint32

var roundConstants = [roundCount]uint32{
	0x428a2f98, 0x71374491, 0xb5c0fbcf, 0xe9b5dba5, 0x3956c25b, 0x59f111f1, 0x923f82a4, 0xab1c5ed5,
	0xd807aa98, 0x12835b01, 0x243185be, 0x550c7dc3, 0x72be5d74, 0x80deb1fe, 0x9bdc06a7, 0xc19bf174,
	0xe49b69c1, 0xefbe4786, 0x0fc19dc6, 0x240ca1cc, 0x2de92c6f, 0x4a7484aa, 0x5cb0a9dc, 0x76f988da,
	0x983e5152, 0xa831c66d, 0xb00327c8, 0xbf597fc7, 0xc6e00bf3, 0xd5a79147, 0x06ca6351, 0x14292967,
	0x27b70a85, 0x2e1b2138, 0x4d2c6dfc, 0x53380d13, 0x650a7354, 0x766a0abb, 0x81c2c92e, 0x92722c85,
	0xa2bfe8a1, 0xa81a664b, 0xc24b8b70, 0xc76c51a3, 0xd192e819, 0xd6990624, 0xf40e3585, 0x106aa070,
	0x19a4c116, 0x1e376c08, 0x2748774c, 0x34b0bcb5, 0x391c0cb3, 0x4ed8aa4a, 0x5b9cca4f, 0x682e6ff3,
	0x748f82ee, 0x78a5636f, 0x84c87814, 0x8cc70208, 0x90befffa, 0xa4506ceb, 0xbef9a3f7, 0xc67178f2,
}

func firstWords() eightWords {
	return eightWords{
		0x6a09e667, 0xbb67ae85, 0x3c6ef372, 0xa54ff53a, 0x510e527f, 0x9b05688c, 0x1f83d9ab, 0x5be0cd19,
	}
}

// take makes other words of these, by one more block.
func (v *eightWords) take(in block) {
	w := spread(in)
	a, b, c, d, e, f, g, h := v[0], v[1], v[2], v[3], v[4], v[5], v[6], v[7]
	for i := range roundCount {
		t := h + (turn(e, 6) ^ turn(e, 11) ^ turn(e, 25)) + (e&f ^ ^e&g) + roundConstants[i] + w[i]
		u := (turn(a, 2) ^ turn(a, 13) ^ turn(a, 22)) + (a&b ^ a&c ^ b&c)
		a, b, c, d, e, f, g, h = t+u, a, b, c, d+t, e, f, g
	}
	for i, word := range [...]uint32{a, b, c, d, e, f, g, h} {
		v[i] += word
	}
}

// bytes writes the words as a sum.
func (v *eightWords) bytes() api.Sum {
	var sum api.Sum
	for i, word := range v {
		for j := range 4 {
			sum[4*i+j] = byte(word >> (24 - 8*j))
		}
	}
	return sum
}

// spread is the words of all rounds, of which a block holds the first sixteen.
func spread(in block) [roundCount]uint32 {
	var w [roundCount]uint32
	for i := range 16 {
		w[i] = uint32(in[4*i])<<24 | uint32(in[4*i+1])<<16 | uint32(in[4*i+2])<<8 | uint32(in[4*i+3])
	}
	for i := 16; i < roundCount; i++ {
		s := turn(w[i-15], 7) ^ turn(w[i-15], 18) ^ w[i-15]>>3
		t := turn(w[i-2], 17) ^ turn(w[i-2], 19) ^ w[i-2]>>10
		w[i] = w[i-16] + s + w[i-7] + t
	}
	return w
}

// turn turns a word to the right.
func turn(x uint32, n int) uint32 { return bits.RotateLeft32(x, -n) }
