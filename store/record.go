package store

import (
	"strings"

	"bedrock/api"
	"bedrock/num"
	"bedrock/sha"
)

const (
	mark     = "body" // with which a record begins
	sumLong  = 4
	headLong = len(mark) + 4 + sumLong // of a record, but the body
)

// Record is the record of a body.
func Record(body string) (string, api.Errno) {
	if len(body) < 1 || len(body) > api.MaxBlock {
		return "", api.ErrNoBody
	}
	w := num.NewWriter()
	w.U32(uint32(len(body)))
	long := w.Text()
	sum := sha.Twice(long + body)
	return mark + long + string(sum[:sumLong]) + body, api.OK
}

// Get is the body that stands somewhere.
func (s *Store) Get(p api.Pos) (string, api.Errno) {
	if e := s.ready(p.File); e != api.OK {
		return "", e
	}
	// Of a place or a length that can't be the record is empty, and so not right.
	record, _ := s.disk.Part(s.file(p.File), p.At, headLong+p.Long)
	body, ok := takeRecord(record)
	if !ok || len(body) != p.Long {
		return "", api.ErrPos
	}
	return body, api.OK
}

// Scan is where the bodies of a file stand, and how many bytes behind them are no record.
func (s *Store) Scan(file int) ([]api.Pos, int, api.Errno) {
	if e := s.ready(file); e != api.OK {
		return nil, 0, e
	}
	text, e := s.disk.Read(s.file(file))
	if e != api.OK {
		return nil, 0, e
	}
	places, left := scan(file, text)
	return places, left, api.OK
}

// ready is the first error that reading a file has.
func (s *Store) ready(file int) api.Errno {
	if s == nil {
		return api.ErrPos
	}
	if s.disk.Dead() {
		return api.ErrDead
	}
	if !s.has(file) {
		return api.ErrPos
	}
	return api.OK
}

// scan is where the records of a file's bytes stand, and how many bytes are left behind them.
func scan(file int, text string) ([]api.Pos, int) {
	var places []api.Pos
	at := 0
	for {
		body, ok := takeRecord(text[at:])
		if !ok {
			return places, len(text) - at
		}
		places = append(places, api.Pos{File: file, At: at, Long: len(body)})
		at += headLong + len(body)
	}
}

// takeRecord is the body of the record with which s begins, and whether it is whole and right.
func takeRecord(s string) (string, bool) {
	r := num.NewReader(s)
	r.Bytes(len(mark))
	long := r.U32()
	r.Bytes(sumLong)
	body := r.Bytes(int(long))
	// Of a record that is cut the body is empty, which none is.
	right, e := Record(body)
	return body, e == api.OK && strings.HasPrefix(s, right)
}
