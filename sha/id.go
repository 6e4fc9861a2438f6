package sha

import (
	"bedrock/api"
	"bedrock/num"
)

// Text is an id as a text: its bytes from the last to the first.
func Text(h api.Hash) string { return num.Text(h) }

// Parse is the id of a text; with ErrHash the place at which it is none.
func Parse(s string) (api.Hash, int, api.Errno) {
	h, at, e := num.Parse(s)
	if e != api.OK {
		return api.Hash{}, at, api.ErrHash
	}
	return h, 0, api.OK
}

// Zero tells whether all bytes are 0.
func Zero(h api.Hash) bool { return h == api.Hash{} }

// Compare tells which id is less, as numbers whose first byte is the lowest.
func Compare(a, b api.Hash) int { return num.Compare(a, b) }
