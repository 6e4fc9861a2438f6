package sip

import (
	"bedrock/api"
	"bedrock/num"
	"bedrock/sha"
)

// How many bytes a short id has, and which is the greatest.
const (
	shortLong = 6
	shortMost = 1<<(8*shortLong) - 1
)

// Keys is the keys of a header's bytes and a nonce.
func Keys(header string, nonce uint64) (api.Keys, api.Errno) {
	if len(header) != api.HeaderBytes {
		return api.Keys{}, api.ErrArg
	}
	w := num.NewWriter()
	w.Bytes(header)
	w.U64(nonce)
	sum := sha.Sum(w.Text())
	r := num.NewReader(string(sum[:]))
	k0 := r.U64()
	k1 := r.U64()
	return api.Keys{K0: k0, K1: k1}, api.OK
}

// Short is an id's short id.
func Short(k api.Keys, id api.Hash) uint64 { return Hash(k, string(id[:])) & shortMost }

// ShortBytes is a short id's bytes, the lowest first.
func ShortBytes(short uint64) (string, api.Errno) {
	if short > shortMost {
		return "", api.ErrShort
	}
	w := num.NewWriter()
	w.U64(short)
	return w.Text()[:shortLong], api.OK
}

// TakeShort is the short id whose bytes stand at a place of a text.
func TakeShort(s string, at int) (uint64, api.Errno) {
	if at < 0 || at > len(s) {
		return 0, api.ErrArg
	}
	r := num.NewReader(s[at:])
	low := uint64(r.U32())
	high := uint64(r.U16())
	if e := r.Err(); e != api.OK {
		return 0, e
	}
	return high<<32 | low, api.OK
}

// Clash is the places of the first two ids that are unlike and have one short id.
func Clash(k api.Keys, ids ...api.Hash) (int, int, bool) {
	met := make(map[api.Hash]struct{}, len(ids))
	firsts := make(map[uint64]int, len(ids))
	for second, id := range ids {
		if _, again := met[id]; again {
			continue // like ids do not clash, and an unlike one would have clashed where this was first met
		}
		met[id] = struct{}{}
		short := Short(k, id)
		if first, taken := firsts[short]; taken {
			return first, second, true
		}
		firsts[short] = second
	}
	return 0, 0, false
}
