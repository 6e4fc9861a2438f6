package wide

import (
	"math/bits"

	"bedrock/api"
)

// Div is the quotient, cut down, and what is left.
func Div(a, b api.Wide) (api.Wide, api.Wide, api.Errno) {
	if Zero(b) {
		return api.Wide{}, api.Wide{}, api.ErrZero
	}
	if word, one := Low(b); one {
		quotient, rest := divWord(a, word)
		return quotient, From(rest), api.OK
	}
	quotient, rest := divLong(a, b)
	return quotient, rest, api.OK
}

// divWord is the quotient by a word that is not 0, and what is left, word by word from the highest on.
func divWord(a api.Wide, word uint64) (api.Wide, uint64) {
	var rest uint64 // below word, so that no quotient of two words by it passes one word
	for i := len(a) - 1; i >= 0; i-- {
		a[i], rest = bits.Div64(rest, a[i], word)
	}
	return a, rest
}

// divLong is the quotient by a number that is not 0, and what is left, bit by bit from the highest on.
func divLong(a, b api.Wide) (api.Wide, api.Wide) {
	var quotient api.Wide
	for n := Bits(a) - Bits(b); n >= 0; n-- {
		part, _ := Left(b, n)
		if rest, under := Sub(a, part); !under {
			a, quotient = rest, withBit(quotient, n)
		}
	}
	return quotient, a
}

// Root is the greatest number whose square is not above a.
func Root(a api.Wide) api.Wide {
	var root api.Wide
	for n := wideBits/2 - 1; n >= 0; n-- { // of half the bits no square is too great
		more := withBit(root, n)
		if square, _ := Mul(more, more); Compare(square, a) <= 0 {
			root = more
		}
	}
	return root
}
