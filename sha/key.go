package sha

import "bedrock/api"

// The bytes that a key is mixed with, for the sum inside and the one around it.
const (
	maskInside = 54
	maskAround = 92
)

// Key is HMAC of SHA-256.
func Key(key, s string) api.Hash {
	block := keyBlock(key)
	inside := sumBehind(masked(block, maskInside), s)
	return sumBehind(masked(block, maskAround), string(inside[:]))
}

// keyBlock is a key, or the sum of one that is too long, padded to a block.
func keyBlock(key string) [blockLong]byte {
	var block [blockLong]byte
	if len(key) > blockLong {
		sum := Sum(key)
		key = string(sum[:])
	}
	copy(block[:], key)
	return block
}

// masked is each byte of a block exclusive or the mask.
func masked(block [blockLong]byte, mask byte) string {
	for i := range len(block) {
		block[i] ^= mask
	}
	return string(block[:])
}
