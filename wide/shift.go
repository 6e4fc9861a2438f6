package wide

import (
	"math/bits"

	"bedrock/api"
)

// Left is a times 2^n, and whether bits of it were lost.
func Left(a api.Wide, n int) (api.Wide, bool) {
	n = shortShift(n)
	if n < 0 {
		return down(a, -n), false
	}
	moved := up(a, n)
	return moved, down(moved, n) != a
}

// Right is a over 2^n, cut down.
func Right(a api.Wide, n int) api.Wide {
	n = shortShift(n)
	if n < 0 {
		return up(a, -n)
	}
	return down(a, n)
}

// shortShift cuts a shift that moves all bits out to one that just does; so the least int has one the other way, too.
func shortShift(n int) int { return max(-wideBits, min(n, wideBits)) }

// up moves bits n places up, n from 0 on.
func up(a api.Wide, n int) api.Wide {
	var moved api.Wide
	words, places := n/wordBits, n%wordBits
	for i := words; i < len(a); i++ {
		moved[i] = a[i-words] << places
		if i > words {
			moved[i] |= a[i-words-1] >> (wordBits - places)
		}
	}
	return moved
}

// down moves bits n places down, n from 0 on.
func down(a api.Wide, n int) api.Wide {
	var moved api.Wide
	words, places := n/wordBits, n%wordBits
	for i := words; i < len(a); i++ {
		moved[i-words] = a[i] >> places
		if i > words {
			moved[i-words-1] |= a[i] << (wordBits - places)
		}
	}
	return moved
}

// Bits is the least n with a below 2^n.
func Bits(a api.Wide) int {
	for i := len(a) - 1; i >= 0; i-- {
		if a[i] != 0 {
			return i*wordBits + bits.Len64(a[i])
		}
	}
	return 0
}

// Bit tells whether the bit n is 1.
func Bit(a api.Wide, n int) bool {
	if n < 0 || n >= wideBits {
		return false
	}
	return a[n/wordBits]>>(n%wordBits)&1 == 1
}

// withBit is a number with the bit n, from 0 to 255, set.
func withBit(a api.Wide, n int) api.Wide {
	a[n/wordBits] |= 1 << (n % wordBits)
	return a
}
