package target

import (
	"math"

	"bedrock/api"
	"bedrock/wide"
)

// Work is the work that bits ask for, if they may be.
func Work(bits uint32) (api.Wide, api.Errno) {
	t, e := Expand(bits)
	if e != api.OK {
		return api.Wide{}, e
	}
	return share(t), api.OK
}

// share is 2^256 over t and 1 together, rounded down, t from 1 to the limit. As 2^256 has more bits than a number, t and 1 are taken from it once ahead of the division: what is left of it is t turned over.
func share(t api.Wide) api.Wide {
	divisor, _ := wide.Add(t, wide.From(1))
	quotient, _, _ := wide.Div(wide.Not(t), divisor)
	work, _ := wide.Add(quotient, wide.From(1))
	return work
}

// Tries is how many tries bits ask for, or the greatest number of 64 bits, if there are more.
func Tries(bits uint32) (uint64, api.Errno) {
	work, e := Work(bits)
	if e != api.OK {
		return 0, e
	}
	if tries, one := wide.Low(work); one {
		return tries, api.OK
	}
	return math.MaxUint64, api.OK
}
