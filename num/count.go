package num

import "bedrock/api"

// The first bytes of the forms that are longer than one byte.
const (
	markTwo   = 253
	markFour  = 254
	markEight = 255
)

// Count is a count's bytes.
func Count(n uint64) string { return string(putCount(nil, n)) }

// CountLong is how many bytes a count has.
func CountLong(n uint64) int {
	switch {
	case n < markTwo:
		return 1
	case n <= 1<<16-1:
		return 3
	case n <= 1<<32-1:
		return 5
	}
	return 9
}

// TakeCount is the count that stands in a text, and the place behind it.
func TakeCount(s string, at int) (uint64, int, api.Errno) {
	if at < 0 || at > len(s) {
		return 0, 0, api.ErrArg
	}
	if at == len(s) {
		return 0, 0, api.ErrCut
	}
	first := s[at]
	if first < markTwo {
		return uint64(first), at + 1, api.OK
	}
	rest := s[at+1:]
	long := behindMark(first)
	if len(rest) < long {
		return 0, 0, api.ErrCut
	}
	n := lowFirst(rest[:long])
	if CountLong(n) != 1+long {
		return 0, 0, api.ErrForm
	}
	return n, at + 1 + long, api.OK
}

// behindMark is how many bytes the number behind a mark has.
func behindMark(mark byte) int {
	switch mark {
	case markTwo:
		return 2
	case markFour:
		return 4
	}
	return 8
}

// putCount lays a count behind to.
func putCount(to []byte, n uint64) []byte {
	switch CountLong(n) {
	case 1:
		return putLow(to, n, 1)
	case 3:
		return putLow(append(to, markTwo), n, 2)
	case 5:
		return putLow(append(to, markFour), n, 4)
	}
	return putLow(append(to, markEight), n, 8)
}
