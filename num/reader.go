package num

import "bedrock/api"

// Reader goes through bytes from the front, and keeps the first error that it met.
type Reader struct {
	all string
	at  int
	err api.Errno
}

// NewReader is a reader at the front.
func NewReader(s string) *Reader { return &Reader{all: s} }

// Byte is the next byte.
func (r *Reader) Byte() byte { return byte(lowFirst(r.take(1))) }

// U16 is the next two bytes.
func (r *Reader) U16() uint16 { return uint16(lowFirst(r.take(2))) }

// U32 is the next four.
func (r *Reader) U32() uint32 { return uint32(lowFirst(r.take(4))) }

// U64 is the next eight.
func (r *Reader) U64() uint64 { return lowFirst(r.take(8)) }

// Big16 is the next two, the highest first.
func (r *Reader) Big16() uint16 { return swap16(r.U16()) }

// Count is the next count, if it is at most most.
func (r *Reader) Count(most uint64) uint64 {
	if r.Err() != api.OK {
		return 0
	}
	n, behind, e := TakeCount(r.all, r.at)
	if n > most {
		e = api.ErrMore
	}
	if e != api.OK {
		r.err = e
		return 0
	}
	r.at = behind
	return n
}

// Bytes is the next n bytes.
func (r *Reader) Bytes(n int) string {
	if n < 0 {
		r.Fail(api.ErrArg)
		return ""
	}
	return r.take(n)
}

// String is a count of at most most, and so many bytes.
func (r *Reader) String(most int) string {
	if most < 0 {
		r.Fail(api.ErrArg)
		return ""
	}
	if r.Err() != api.OK {
		return ""
	}
	start := r.at
	text := r.take(int(r.Count(uint64(most))))
	if r.err != api.OK {
		r.at = start // the count is not taken either, where its bytes are not there
	}
	return text
}

// Hash is the next 32 bytes.
func (r *Reader) Hash() api.Hash {
	var h api.Hash
	copy(h[:], r.take(len(h)))
	return h
}

// Bool is the next byte as yes or no.
func (r *Reader) Bool() bool {
	b := r.Byte()
	if b > 1 { // only a byte that was taken is above 0: it is given back
		r.at--
		r.err = api.ErrForm
	}
	return b == 1
}

// Fail lays an error, if there is none yet.
func (r *Reader) Fail(e api.Errno) {
	if r.Err() == api.OK {
		r.err = e
	}
}

// Err is the error.
func (r *Reader) Err() api.Errno {
	if r == nil {
		return api.ErrArg
	}
	return r.err
}

// At is how many bytes were taken.
func (r *Reader) At() int {
	if r == nil {
		return 0
	}
	return r.at
}

// Left is how many bytes are left.
func (r *Reader) Left() int {
	if r == nil {
		return 0
	}
	return len(r.all) - r.at
}

// End is the error, or that bytes are left.
func (r *Reader) End() api.Errno {
	if r.Left() > 0 {
		r.Fail(api.ErrMore)
	}
	return r.Err()
}

// take is the next n bytes (n is not below 0); none with an error.
func (r *Reader) take(n int) string {
	if r.Err() != api.OK {
		return ""
	}
	if r.Left() < n {
		r.err = api.ErrCut
		return ""
	}
	text := r.all[r.at : r.at+n]
	r.at += n
	return text
}
