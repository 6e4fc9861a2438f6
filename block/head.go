package block

import (
	"bedrock/api"
	"bedrock/num"
	"bedrock/sha"
	"bedrock/target"
)

// Head is a header's bytes.
func Head(h api.Header) string {
	w := num.NewWriter()
	w.U32(h.Version)
	w.Hash(h.Prev)
	w.Hash(h.Root)
	w.U32(h.Time)
	w.U32(h.Bits)
	w.U32(h.Nonce)
	return w.Text()
}

// TakeHead is the header whose bytes stand at a place.
func TakeHead(s string, at int) (api.Header, api.Errno) {
	if at < 0 || at > len(s) {
		return api.Header{}, api.ErrArg
	}
	var h api.Header
	r := num.NewReader(s[at:])
	h.Version = r.U32()
	h.Prev = r.Hash()
	h.Root = r.Hash()
	h.Time = r.U32()
	h.Bits = r.U32()
	h.Nonce = r.U32()
	if e := r.Err(); e != api.OK {
		return api.Header{}, e
	}
	return h, api.OK
}

// ID is a header's id.
func ID(h api.Header) api.Hash { return sha.Twice(Head(h)) }

// Meets tells whether a header meets its target.
func Meets(h api.Header) bool { return target.Meets(ID(h), h.Bits) }
