package num

import "bedrock/api"

// Writer puts bytes behind one another.
type Writer struct{ all []byte }

// NewWriter is a writer with nothing.
func NewWriter() *Writer { return &Writer{} }

// Byte puts a byte.
func (w *Writer) Byte(b byte) { w.number(uint64(b), 1) }

// U16 puts two bytes.
func (w *Writer) U16(n uint16) { w.number(uint64(n), 2) }

// U32 puts four.
func (w *Writer) U32(n uint32) { w.number(uint64(n), 4) }

// U64 puts eight.
func (w *Writer) U64(n uint64) { w.number(n, 8) }

// Big16 puts two, the highest first.
func (w *Writer) Big16(n uint16) { w.U16(swap16(n)) }

// Count puts a count.
func (w *Writer) Count(n uint64) {
	if w != nil {
		w.all = putCount(w.all, n)
	}
}

// Bytes puts bytes.
func (w *Writer) Bytes(s string) {
	if w != nil {
		w.all = append(w.all, s...)
	}
}

// String puts a count and bytes.
func (w *Writer) String(s string) {
	w.Count(uint64(len(s)))
	w.Bytes(s)
}

// Hash puts 32 bytes.
func (w *Writer) Hash(h api.Hash) { w.Bytes(string(h[:])) }

// Bool puts yes or no.
func (w *Writer) Bool(b bool) {
	if b {
		w.Byte(1)
	} else {
		w.Byte(0)
	}
}

// Len is how many bytes there are.
func (w *Writer) Len() int {
	if w == nil {
		return 0
	}
	return len(w.all)
}

// Text is all bytes.
func (w *Writer) Text() string {
	if w == nil {
		return ""
	}
	return string(w.all)
}

// number puts the lowest long bytes of n, the lowest first.
func (w *Writer) number(n uint64, long int) {
	if w != nil {
		w.all = putLow(w.all, n, long)
	}
}
