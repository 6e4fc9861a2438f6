package sip

import "bedrock/api"

// wordLong is how many bytes a word has.
const wordLong = 8

// Sip is a digest of what is written.
type Sip struct {
	v    [4]uint64 // behind the whole words
	tail uint64    // what was written behind these, the lowest byte first
	long int       // how many bytes were written
}

// New is a digest of nothing.
func New(k api.Keys) *Sip { return &Sip{v: begun(k)} }

// Write puts a text behind what was written.
func (h *Sip) Write(s string) {
	if h == nil {
		return
	}
	for i := range len(s) {
		h.put(s[i])
	}
}

// put puts a byte behind what was written.
func (h *Sip) put(b byte) {
	h.tail |= uint64(b) << (8 * (h.long % wordLong))
	h.long++
	if h.long%wordLong == 0 {
		h.v = mixed(h.v, h.tail)
		h.tail = 0
	}
}

// Sum is the digest of what was written; more can be written behind it.
func (h *Sip) Sum() uint64 {
	if h == nil {
		return 0
	}
	long := uint64(h.long) << 56 // the shift drops all but the length modulo 256
	return ended(mixed(h.v, h.tail|long))
}

// Len is how many bytes were written.
func (h *Sip) Len() int {
	if h == nil {
		return 0
	}
	return h.long
}

// Clone is one of its own that is the same.
func (h *Sip) Clone() *Sip {
	if h == nil {
		return nil
	}
	clone := *h
	return &clone
}
