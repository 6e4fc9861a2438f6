package frame

import (
	"slices"

	"bedrock/api"
)

// Stream is bytes out of which frames are taken.
type Stream struct {
	magic  uint32
	held   []byte
	broken api.Errno // only since a Next told it
	taken  int
}

// New is a stream that holds nothing.
func New(magic uint32) *Stream { return &Stream{magic: magic} }

// Feed lays bytes behind those that are held, and tells for how many there was room.
func (x *Stream) Feed(s string) int {
	if x.Broken() != api.OK {
		return 0
	}
	n := min(len(s), api.HeldMost-len(x.held))
	x.held = append(x.held, s[:n]...)
	return n
}

// Next takes out the frame at the front, if it is whole.
func (x *Stream) Next() (api.Frame, bool, api.Errno) {
	if e := x.Broken(); e != api.OK {
		return api.Frame{}, false, e
	}
	whole, e := x.front()
	if e != api.OK {
		x.broken, x.held = e, nil
		return api.Frame{}, false, e
	}
	if len(x.held) < whole {
		return api.Frame{}, false, api.OK
	}
	f, _, e := Decode(x.magic, string(x.held[:whole]), 0)
	x.held = x.held[whole:]
	if e != api.OK { // the checksum: all else was asked at the front
		return api.Frame{}, false, e
	}
	x.taken++
	return f, true, api.OK
}

// Held is how many bytes are held.
func (x *Stream) Held() int {
	if x == nil {
		return 0
	}
	return len(x.held)
}

// Need is how many more bytes the frame at the front needs, as far as it can be told.
func (x *Stream) Need() int {
	if x.Broken() != api.OK {
		return 0
	}
	whole, e := x.front()
	if e != api.OK {
		return 0
	}
	return max(0, whole-len(x.held))
}

// Broken is the error by which the stream is broken.
func (x *Stream) Broken() api.Errno {
	if x == nil {
		return api.ErrArg
	}
	return x.broken
}

// Taken is how many frames were taken out.
func (x *Stream) Taken() int {
	if x == nil {
		return 0
	}
	return x.taken
}

// Clone is a stream that is the same, and goes its own way.
func (x *Stream) Clone() *Stream {
	if x == nil {
		return nil
	}
	same := *x
	same.held = slices.Clone(x.held)
	return &same
}

// front is how many bytes the frame at the front has, those of a head as long as there is none, or the error by which the stream is to be broken.
func (x *Stream) front() (int, api.Errno) {
	h, e := readHead(x.magic, string(x.held[:min(len(x.held), api.FrameHead)]))
	if e == api.ErrCut { // bytes that are yet to come break nothing
		e = api.OK
	}
	return api.FrameHead + h.long, e
}
