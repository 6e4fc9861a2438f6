package wide

import (
	"bedrock/api"
	"bedrock/num"
)

// The base of texts, and how many digits the greatest number has.
const (
	base       = 10
	mostDigits = 78
)

// Text is a number in decimal digits.
func Text(a api.Wide) string {
	var digits [mostDigits]byte
	at := len(digits)
	for at == len(digits) || !Zero(a) {
		rest, digit := divWord(a, base)
		at--
		a, digits[at] = rest, '0'+byte(digit)
	}
	return string(digits[at:])
}

// Parse is the number of a text; with ErrDigits the place at which it is none.
func Parse(s string) (api.Wide, int, api.Errno) {
	var a api.Wide
	for at := range len(s) {
		next, good := withDigit(a, s[at])
		if !good || at > 0 && Zero(a) {
			return api.Wide{}, at, api.ErrDigits
		}
		a = next
	}
	if s == "" {
		return api.Wide{}, 0, api.ErrDigits
	}
	return a, 0, api.OK
}

// withDigit is a number with a digit put behind its others, if that is a digit and there is such a number.
func withDigit(a api.Wide, digit byte) (api.Wide, bool) {
	if digit < '0' || digit > '9' {
		return api.Wide{}, false
	}
	low, high := Mul(a, From(base))
	sum, over := Add(low, From(uint64(digit-'0')))
	return sum, !over && Zero(high)
}

// Hex is a number in 64 small digits to the base 16, the highest first.
func Hex(a api.Wide) string { return num.Text(Bytes(a)) }
