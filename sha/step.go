package sha

import (
	"math/bits"

	"bedrock/api"
)

// blockLong is how many bytes a block has.
const blockLong = 64

// rounds is K0 .. K63: of the cube roots of the first 64 primes the first 32 bits behind the point.
var rounds = [64]uint32{
	0x428a2f98, 0x71374491, 0xb5c0fbcf, 0xe9b5dba5, 0x3956c25b, 0x59f111f1, 0x923f82a4, 0xab1c5ed5,
	0xd807aa98, 0x12835b01, 0x243185be, 0x550c7dc3, 0x72be5d74, 0x80deb1fe, 0x9bdc06a7, 0xc19bf174,
	0xe49b69c1, 0xefbe4786, 0x0fc19dc6, 0x240ca1cc, 0x2de92c6f, 0x4a7484aa, 0x5cb0a9dc, 0x76f988da,
	0x983e5152, 0xa831c66d, 0xb00327c8, 0xbf597fc7, 0xc6e00bf3, 0xd5a79147, 0x06ca6351, 0x14292967,
	0x27b70a85, 0x2e1b2138, 0x4d2c6dfc, 0x53380d13, 0x650a7354, 0x766a0abb, 0x81c2c92e, 0x92722c85,
	0xa2bfe8a1, 0xa81a664b, 0xc24b8b70, 0xc76c51a3, 0xd192e819, 0xd6990624, 0xf40e3585, 0x106aa070,
	0x19a4c116, 0x1e376c08, 0x2748774c, 0x34b0bcb5, 0x391c0cb3, 0x4ed8aa4a, 0x5b9cca4f, 0x682e6ff3,
	0x748f82ee, 0x78a5636f, 0x84c87814, 0x8cc70208, 0x90befffa, 0xa4506ceb, 0xbef9a3f7, 0xc67178f2,
}

// First is the state at first: of the square roots of the first eight primes the first 32 bits behind the point.
func First() api.State {
	return api.State{0x6a09e667, 0xbb67ae85, 0x3c6ef372, 0xa54ff53a, 0x510e527f, 0x9b05688c, 0x1f83d9ab, 0x5be0cd19}
}

// Step is the state behind a block.
func Step(x api.State, block [64]byte) api.State {
	words := spread(block)
	a, b, c, d, e, f, g, h := x[0], x[1], x[2], x[3], x[4], x[5], x[6], x[7]
	for t := range len(words) {
		t1 := h + turned(e, 6, 11, 25) + (e&f ^ ^e&g) + rounds[t] + words[t]
		t2 := turned(a, 2, 13, 22) + (a&b ^ a&c ^ b&c)
		h, g, f, e, d, c, b, a = g, f, e, d+t1, c, b, a, t1+t2
	}
	behind := api.State{a, b, c, d, e, f, g, h}
	for i := range len(x) {
		behind[i] += x[i]
	}
	return behind
}

// spread is W0 .. W63: the words of a block, and those that are made of them.
func spread(block [64]byte) [64]uint32 {
	var w [64]uint32
	for t := range 16 {
		for i := range 4 {
			w[t] = w[t]<<8 | uint32(block[4*t+i])
		}
	}
	for t := range 48 {
		w[t+16] = shifted(w[t+14], 17, 19, 10) + w[t+9] + shifted(w[t+1], 7, 18, 3) + w[t]
	}
	return w
}

// turned is the exclusive or of x turned to the right by i, j and k.
func turned(x uint32, i, j, k int) uint32 {
	return bits.RotateLeft32(x, -i) ^ bits.RotateLeft32(x, -j) ^ bits.RotateLeft32(x, -k)
}

// shifted is the exclusive or of x turned to the right by i and j, and shifted by k.
func shifted(x uint32, i, j, k int) uint32 {
	return bits.RotateLeft32(x, -i) ^ bits.RotateLeft32(x, -j) ^ x>>k
}

// Pad is the bytes with which a text of n bytes is padded.
func Pad(n uint64) string {
	const mark, length = 1, 8 // bytes that are always there
	zeros := (2*blockLong - mark - length - n%blockLong) % blockLong
	pad := make([]byte, mark+zeros, mark+zeros+length)
	pad[0] = 128
	for i := range length {
		pad = append(pad, byte(8*n>>(56-8*i)))
	}
	return string(pad)
}

// laid is a state as bytes, of each word the highest first.
func laid(x api.State) api.Hash {
	var h api.Hash
	for i := range len(x) {
		for j := range 4 {
			h[4*i+j] = byte(x[i] >> (24 - 8*j))
		}
	}
	return h
}
