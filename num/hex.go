package num

import "bedrock/api"

const digits = "0123456789abcdef"

// hashText is how many digits a hash's text has.
const hashText = 64

// Hex is bytes to the base 16.
func Hex(s string) string {
	text := make([]byte, 0, 2*len(s))
	for i := range len(s) {
		text = append(text, digits[s[i]>>4], digits[s[i]&15])
	}
	return string(text)
}

// Unhex is the bytes of a text to the base 16; with ErrHex the place at which it is none.
func Unhex(s string) (string, int, api.Errno) {
	good := goodDigits(s)
	if good < len(s) || len(s)%2 != 0 {
		return "", good, api.ErrHex
	}
	return string(pairs(s)), 0, api.OK
}

// Text is a hash's text: its bytes from the last to the first.
func Text(h api.Hash) string {
	turned := turn(h)
	return Hex(string(turned[:]))
}

// Parse is the hash of a text; with ErrHex the place at which it is none.
func Parse(s string) (api.Hash, int, api.Errno) {
	good := min(goodDigits(s), hashText)
	if good < hashText || len(s) > hashText {
		return api.Hash{}, good, api.ErrHex
	}
	var turned api.Hash
	copy(turned[:], pairs(s))
	return turn(turned), 0, api.OK
}

// Compare tells which hash is less, as numbers whose first byte is the lowest.
func Compare(a, b api.Hash) int {
	for i := len(a) - 1; i >= 0; i-- {
		if a[i] < b[i] {
			return -1
		}
		if a[i] > b[i] {
			return 1
		}
	}
	return 0
}

// goodDigits is how many small digits stand at the front of a text.
func goodDigits(s string) int {
	for i := range len(s) {
		if !isDigit(s[i]) {
			return i
		}
	}
	return len(s)
}

func isDigit(b byte) bool { return b >= '0' && b <= '9' || b >= 'a' && b <= 'f' }

// digit is the value of a small digit.
func digit(b byte) byte {
	if b <= '9' {
		return b - '0'
	}
	return b - 'a' + 10
}

// pairs is the bytes that small digits stand for, two digits a byte.
func pairs(s string) []byte {
	raw := make([]byte, len(s)/2)
	for i := range raw {
		raw[i] = digit(s[2*i])<<4 | digit(s[2*i+1])
	}
	return raw
}

// turn is a hash with its bytes from the last to the first.
func turn(h api.Hash) api.Hash {
	var turned api.Hash
	for i := range h {
		turned[len(h)-1-i] = h[i]
	}
	return turned
}
