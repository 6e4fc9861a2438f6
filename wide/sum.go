package wide

import (
	"math/bits"

	"bedrock/api"
)

// Add is the sum, and whether it passed the greatest number.
func Add(a, b api.Wide) (api.Wide, bool) {
	var sum api.Wide
	var carry uint64
	for i := range sum {
		sum[i], carry = bits.Add64(a[i], b[i], carry)
	}
	return sum, carry != 0
}

// Sub is the difference, and whether it passed 0.
func Sub(a, b api.Wide) (api.Wide, bool) {
	var rest api.Wide
	var borrow uint64
	for i := range rest {
		rest[i], borrow = bits.Sub64(a[i], b[i], borrow)
	}
	return rest, borrow != 0
}

// Sum is the sum of all, and whether it passed the greatest number.
func Sum(l ...api.Wide) (api.Wide, bool) {
	var sum api.Wide
	passed := false
	for _, a := range l {
		next, over := Add(sum, a)
		sum, passed = next, passed || over
	}
	return sum, passed
}

// Mul is the product's lower 256 bits, and its higher ones.
func Mul(a, b api.Wide) (api.Wide, api.Wide) {
	var all [8]uint64
	for i, x := range a {
		var carry uint64
		for j, y := range b {
			carry, all[i+j] = mulAdd(x, y, all[i+j], carry)
		}
		all[i+len(b)] = carry
	}
	return api.Wide{all[0], all[1], all[2], all[3]}, api.Wide{all[4], all[5], all[6], all[7]}
}

// mulAdd is the higher and the lower word of x times y and two words more, which never pass two words together.
func mulAdd(x, y, first, second uint64) (uint64, uint64) {
	high, low := bits.Mul64(x, y)
	low, carry := bits.Add64(low, first, 0)
	high += carry
	low, carry = bits.Add64(low, second, 0)
	return high + carry, low
}
