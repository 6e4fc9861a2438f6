package sha

import "bedrock/api"

// Hasher sums in parts.
type Hasher struct {
	state api.State       // behind the whole blocks
	tail  [blockLong]byte // at its front what was written behind these
	long  uint64          // how many bytes were written
}

// New is a hasher to which nothing was written.
func New() *Hasher { return &Hasher{state: First()} }

// Write puts a text behind what was written.
func (h *Hasher) Write(s string) {
	if h == nil {
		return
	}
	for len(s) > 0 {
		took := copy(h.tail[h.long%blockLong:], s)
		h.long += uint64(took)
		if h.long%blockLong == 0 {
			h.state = Step(h.state, h.tail)
		}
		s = s[took:]
	}
}

// Len is how many bytes were written.
func (h *Hasher) Len() uint64 {
	if h == nil {
		return 0
	}
	return h.long
}

// Sum is the sum of what was written.
func (h *Hasher) Sum() api.Hash {
	if h == nil {
		return New().Sum()
	}
	padded := *h // a hasher of its own, so that more can be written to h
	padded.Write(Pad(h.long))
	return laid(padded.state)
}

// State is the state behind the whole blocks, and the bytes that are left.
func (h *Hasher) State() (api.State, string) {
	if h == nil {
		return First(), ""
	}
	return h.state, string(h.tail[:h.long%blockLong])
}

// Clone is a hasher of its own that is the same.
func (h *Hasher) Clone() *Hasher {
	if h == nil {
		return nil
	}
	clone := *h
	return &clone
}
