package target

import (
	"bedrock/api"
	"bedrock/wide"
)

// The seconds that the blocks of one target are meant to take, and how many times faster or slower they count at most.
const (
	meantSpan = api.Retarget * api.Spacing
	mostTimes = 4
)

// Next is the next target's bits, by the times of the first and the last block of this one.
func Next(bits uint32, first, last uint32) (uint32, api.Errno) {
	t, e := Expand(bits)
	if e != api.OK {
		return 0, e
	}
	next, passed := stretch(t, realSpan(first, last))
	if passed || wide.Compare(next, Limit()) > 0 {
		next = Limit()
	}
	if wide.Zero(next) {
		next = wide.From(1)
	}
	return Compact(next), api.OK
}

// realSpan is the seconds from first to last, as far as they count.
func realSpan(first, last uint32) uint64 {
	var span uint64
	if last >= first {
		span = uint64(last - first)
	}
	return max(meantSpan/mostTimes, min(span, meantSpan*mostTimes))
}

// stretch is t times the span over the meant one, rounded down, and whether that passes 256 bits. As the product may pass them where its quotient does not, t is divided first, and what is left of it is stretched alone.
func stretch(t api.Wide, span uint64) (api.Wide, bool) {
	meant, taken := wide.From(meantSpan), wide.From(span)
	whole, left, _ := wide.Div(t, meant)
	low, high := wide.Mul(whole, taken)
	product, _ := wide.Mul(left, taken) // below the meant span times four of it
	part, _, _ := wide.Div(product, meant)
	sum, over := wide.Add(low, part)
	return sum, over || !wide.Zero(high)
}
