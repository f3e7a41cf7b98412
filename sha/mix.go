package sha

import (
	"math/bits"

	"sluicegate/api"
)

// How many steps a block takes, each with a word of its own.
const (
	steps1   = 80
	steps256 = 64
)

// roots are the first 32 bits of the fractions of the cube roots of the first 64 primes: SHA-256's constants.
var roots = [steps256]uint32{
	0x428a2f98, 0x71374491, 0xb5c0fbcf, 0xe9b5dba5, 0x3956c25b, 0x59f111f1, 0x923f82a4, 0xab1c5ed5,
	0xd807aa98, 0x12835b01, 0x243185be, 0x550c7dc3, 0x72be5d74, 0x80deb1fe, 0x9bdc06a7, 0xc19bf174,
	0xe49b69c1, 0xefbe4786, 0x0fc19dc6, 0x240ca1cc, 0x2de92c6f, 0x4a7484aa, 0x5cb0a9dc, 0x76f988da,
	0x983e5152, 0xa831c66d, 0xb00327c8, 0xbf597fc7, 0xc6e00bf3, 0xd5a79147, 0x06ca6351, 0x14292967,
	0x27b70a85, 0x2e1b2138, 0x4d2c6dfc, 0x53380d13, 0x650a7354, 0x766a0abb, 0x81c2c92e, 0x92722c85,
	0xa2bfe8a1, 0xa81a664b, 0xc24b8b70, 0xc76c51a3, 0xd192e819, 0xd6990624, 0xf40e3585, 0x106aa070,
	0x19a4c116, 0x1e376c08, 0x2748774c, 0x34b0bcb5, 0x391c0cb3, 0x4ed8aa4a, 0x5b9cca4f, 0x682e6ff3,
	0x748f82ee, 0x78a5636f, 0x84c87814, 0x8cc70208, 0x90befffa, 0xa4506ceb, 0xbef9a3f7, 0xc67178f2,
}

// firstWords answers the words ahead of all blocks.
func firstWords(kind int) [words256]uint32 {
	if kind == api.Sha1 {
		return [words256]uint32{0x67452301, 0xefcdab89, 0x98badcfe, 0x10325476, 0xc3d2e1f0}
	}
	return [words256]uint32{
		0x6a09e667, 0xbb67ae85, 0x3c6ef372, 0xa54ff53a, 0x510e527f, 0x9b05688c, 0x1f83d9ab, 0x5be0cd19,
	}
}

func rol(x uint32, n int) uint32 { return bits.RotateLeft32(x, n) }

func ror(x uint32, n int) uint32 { return bits.RotateLeft32(x, -n) }

// chosen takes each bit from y or from z, as x says.
func chosen(x, y, z uint32) uint32 { return x&y ^ ^x&z }

// most takes each bit as two of the three have it.
func most(x, y, z uint32) uint32 { return x&y ^ x&z ^ y&z }

// mixed1 answers SHA-1's words behind a block.
func mixed1(words [words256]uint32, block [blockWords]uint32) [words256]uint32 {
	a, b, c, d, e := words[0], words[1], words[2], words[3], words[4]
	for t, w := range stretched1(block) {
		x := rol(a, 5) + joined1(t, b, c, d) + e + w
		a, b, c, d, e = x, a, rol(b, 30), c, d
	}
	words[0] += a
	words[1] += b
	words[2] += c
	words[3] += d
	words[4] += e
	return words
}

// stretched1 answers the words of SHA-1's steps.
func stretched1(block [blockWords]uint32) [steps1]uint32 {
	var w [steps1]uint32
	copy(w[:], block[:])
	for t := blockWords; t < steps1; t++ {
		w[t] = rol(w[t-3]^w[t-8]^w[t-14]^w[t-16], 1)
	}
	return w
}

// joined1 answers what SHA-1's step t makes of three words, and its constant with it.
func joined1(t int, b, c, d uint32) uint32 {
	switch {
	case t < 20:
		return chosen(b, c, d) + 0x5a827999
	case t < 40:
		return (b ^ c ^ d) + 0x6ed9eba1
	case t < 60:
		return most(b, c, d) + 0x8f1bbcdc
	}
	return (b ^ c ^ d) + 0xca62c1d6
}

// mixed256 answers SHA-256's words behind a block.
func mixed256(words [words256]uint32, block [blockWords]uint32) [words256]uint32 {
	a, b, c, d := words[0], words[1], words[2], words[3]
	e, f, g, h := words[4], words[5], words[6], words[7]
	for t, w := range stretched256(block) {
		x := h + (ror(e, 6) ^ ror(e, 11) ^ ror(e, 25)) + chosen(e, f, g) + roots[t] + w
		y := (ror(a, 2) ^ ror(a, 13) ^ ror(a, 22)) + most(a, b, c)
		a, b, c, d, e, f, g, h = x+y, a, b, c, d+x, e, f, g
	}
	for i, x := range [words256]uint32{a, b, c, d, e, f, g, h} {
		words[i] += x
	}
	return words
}

// stretched256 answers the words of SHA-256's steps.
func stretched256(block [blockWords]uint32) [steps256]uint32 {
	var w [steps256]uint32
	copy(w[:], block[:])
	for t := blockWords; t < steps256; t++ {
		s0 := ror(w[t-15], 7) ^ ror(w[t-15], 18) ^ w[t-15]>>3
		s1 := ror(w[t-2], 17) ^ ror(w[t-2], 19) ^ w[t-2]>>10
		w[t] = s1 + w[t-7] + s0 + w[t-16]
	}
	return w
}
