package journal

import (
	"strings"

	"bedrock/api"
	"bedrock/num"
	"bedrock/sha"
)

const (
	mark       = "bedrockj" // with which a file begins
	sumLong    = 4
	headLong   = len(mark) + 8 + sumLong
	recordLong = 4 + 8 + sumLong // of a record, but its own bytes
)

// Record is a record's bytes.
func Record(epoch, number uint64, s string) (string, api.Errno) {
	if len(s) > api.MaxRecord {
		return "", api.ErrRecord
	}
	w := num.NewWriter()
	w.U32(uint32(len(s)))
	w.U64(number)
	w.Bytes(s)
	body := w.Text()
	return body + sum(eight(epoch)+body), api.OK
}

// Head is the bytes at the front of a file.
func Head(epoch uint64) string {
	front := mark + eight(epoch)
	return front + sum(front)
}

// Read takes a file's bytes apart.
func Read(s string) (uint64, []string, int, api.Errno) {
	epoch, ok := takeHead(s)
	if !ok {
		return 0, nil, 0, api.ErrHead
	}
	var records []string
	at := headLong
	for {
		record, ok := takeRecord(s[at:], epoch, uint64(len(records)))
		if !ok {
			return epoch, records, len(s) - at, api.OK
		}
		records = append(records, record)
		at += recordLong + len(record)
	}
}

// takeHead is the epoch of the file that begins so, and whether its front is right.
func takeHead(s string) (uint64, bool) {
	r := num.NewReader(s)
	r.Bytes(len(mark))
	epoch := r.U64()
	return epoch, strings.HasPrefix(s, Head(epoch))
}

// takeRecord is the record with which s begins, and whether it is whole and right.
func takeRecord(s string, epoch, number uint64) (string, bool) {
	r := num.NewReader(s)
	long := r.U32()
	r.U64()
	text := r.Bytes(int(long))
	// Of a record that is cut text is empty, and s begins with another length.
	right, e := Record(epoch, number, text)
	return text, e == api.OK && strings.HasPrefix(s, right)
}

// fileBytes is the bytes of a file with these records.
func fileBytes(epoch uint64, l []string) (string, api.Errno) {
	w := num.NewWriter()
	w.Bytes(Head(epoch))
	for i, s := range l {
		record, e := Record(epoch, uint64(i), s)
		if e != api.OK {
			return "", e
		}
		w.Bytes(record)
	}
	return w.Text(), api.OK
}

// fileLong is how many bytes a file with these records has.
func fileLong(l []string) int {
	long := headLong
	for _, s := range l {
		long += recordLong + len(s)
	}
	return long
}

// sum is the first bytes of a digest.
func sum(s string) string {
	digest := sha.Twice(s)
	return string(digest[:sumLong])
}

// eight is a number in eight bytes.
func eight(n uint64) string {
	w := num.NewWriter()
	w.U64(n)
	return w.Text()
}
