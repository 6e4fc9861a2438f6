package sip

import (
	"math/bits"

	"bedrock/api"
)

// What the words of the keys are mixed with ahead of the first word.
const (
	mask0 = 0x736f6d6570736575
	mask1 = 0x646f72616e646f6d
	mask2 = 0x6c7967656e657261
	mask3 = 0x7465646279746573
)

// Which rounds there are for each word, which at the end, and what marks the end.
const (
	wordRounds = 2
	lastRounds = 4
	lastMark   = 255
)

// Round is a round of the four words.
func Round(v [4]uint64) [4]uint64 {
	v[0] += v[1]
	v[1] = bits.RotateLeft64(v[1], 13) ^ v[0]
	v[0] = bits.RotateLeft64(v[0], 32)
	v[2] += v[3]
	v[3] = bits.RotateLeft64(v[3], 16) ^ v[2]
	v[0] += v[3]
	v[3] = bits.RotateLeft64(v[3], 21) ^ v[0]
	v[2] += v[1]
	v[1] = bits.RotateLeft64(v[1], 17) ^ v[2]
	v[2] = bits.RotateLeft64(v[2], 32)
	return v
}

// begun is the four words ahead of the first word of a text.
func begun(k api.Keys) [4]uint64 {
	return [4]uint64{k.K0 ^ mask0, k.K1 ^ mask1, k.K0 ^ mask2, k.K1 ^ mask3}
}

// mixed is the four words behind one more word of a text.
func mixed(v [4]uint64, word uint64) [4]uint64 {
	v[3] ^= word
	v = rounds(v, wordRounds)
	v[0] ^= word
	return v
}

// ended is the answer of the four words behind a text's last word.
func ended(v [4]uint64) uint64 {
	v[2] ^= lastMark
	v = rounds(v, lastRounds)
	return v[0] ^ v[1] ^ v[2] ^ v[3]
}

// rounds is so many rounds of the four words.
func rounds(v [4]uint64, many int) [4]uint64 {
	for range many {
		v = Round(v)
	}
	return v
}
