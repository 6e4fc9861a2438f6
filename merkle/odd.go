package merkle

import (
	"math/bits"

	"bedrock/api"
)

// Odd is a longer list with the root of l: of the lowest level with an odd number of ids the last one's ids are told again. Of no ids, and of a power of two, there is no such level, and it is l.
func Odd(l []api.Hash) []api.Hash {
	n := len(l)
	if n == 0 {
		return nil
	}
	again := 1 << bits.TrailingZeros(uint(n)) // how many ids hang beneath that last one
	if again == n {
		again = 0
	}
	odd := make([]api.Hash, 0, n+again)
	odd = append(odd, l...)
	return append(odd, l[n-again:]...)
}
