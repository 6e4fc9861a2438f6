package num

import (
	"math"
	"math/rand"
	"strings"
	"testing"

	"bedrock/api"
)

// put is a writer's call, and the bytes that it puts.
type put struct {
	name string
	do   func(w *Writer)
	want string
}

// puts is every putting call.
func puts() []put {
	h := rising()
	return []put{
		{"Byte", func(w *Writer) { w.Byte(0xfe) }, "\xfe"},
		{"U16", func(w *Writer) { w.U16(0x8182) }, "\x82\x81"},
		{"U32", func(w *Writer) { w.U32(0x81828384) }, "\x84\x83\x82\x81"},
		{"U64", func(w *Writer) { w.U64(0x8182838485868788) }, "\x88\x87\x86\x85\x84\x83\x82\x81"},
		{"U64 of 1", func(w *Writer) { w.U64(1) }, "\x01\x00\x00\x00\x00\x00\x00\x00"},
		{"Big16", func(w *Writer) { w.Big16(0x8182) }, "\x81\x82"},
		{"Count", func(w *Writer) { w.Count(252) }, "\xfc"},
		{"Count of two", func(w *Writer) { w.Count(253) }, "\xfd\xfd\x00"},
		{"Count of four", func(w *Writer) { w.Count(65536) }, "\xfe\x00\x00\x01\x00"},
		{"Count of eight", func(w *Writer) { w.Count(math.MaxUint64) }, "\xff\xff\xff\xff\xff\xff\xff\xff\xff"},
		{"Bytes", func(w *Writer) { w.Bytes("ab\x00") }, "ab\x00"},
		{"Bytes of none", func(w *Writer) { w.Bytes("") }, ""},
		{"String", func(w *Writer) { w.String("ab\xff") }, "\x03ab\xff"},
		{"String of none", func(w *Writer) { w.String("") }, "\x00"},
		{"Hash", func(w *Writer) { w.Hash(h) }, string(h[:])},
		{"Bool of yes", func(w *Writer) { w.Bool(true) }, "\x01"},
		{"Bool of no", func(w *Writer) { w.Bool(false) }, "\x00"},
	}
}

// Promise 1.4: each call puts its bytes behind what is there.
func TestWriterCalls(t *testing.T) {
	all := NewWriter()
	if all.Text() != "" || all.Len() != 0 {
		t.Errorf("at first: %x, %d", all.Text(), all.Len())
	}
	want := ""
	for _, p := range puts() {
		one := NewWriter()
		p.do(one)
		if one.Text() != p.want || one.Len() != len(p.want) {
			t.Errorf("%s: %x, %d", p.name, one.Text(), one.Len())
		}
		p.do(all)
		want += p.want
		if all.Text() != want || all.Len() != len(want) {
			t.Errorf("%s behind others: %x, %d", p.name, all.Text(), all.Len())
		}
	}
}

// Promise 1.4: Count and String of any length.
func TestWriterOfAnyLength(t *testing.T) {
	for n, raw := range countEdges() {
		w := NewWriter()
		w.Byte('a')
		w.Count(n)
		if w.Text() != "a"+raw {
			t.Errorf("Count(%d): %x", n, w.Text())
		}
	}
	for _, long := range []int{0, 1, 252, 253, 65535, 65536, 1 << 20} {
		s := strings.Repeat("q", long)
		w := NewWriter()
		w.Byte('a')
		w.String(s)
		if w.Text() != "a"+Count(uint64(long))+s || w.Len() != 1+CountLong(uint64(long))+long {
			t.Errorf("String of %d bytes: %d", long, w.Len())
		}
	}
}

// Promise 1.4: a text that was told stays as it was; writers do not hang on one another.
func TestWriterTextStays(t *testing.T) {
	w, other := NewWriter(), NewWriter()
	w.Bytes("ab")
	first := w.Text()
	w.Bytes("cd")
	other.Byte('x')
	if first != "ab" || w.Text() != "abcd" || other.Text() != "x" {
		t.Errorf("%q, %q, %q", first, w.Text(), other.Text())
	}
}

// Promise 1.4: a nil writer does nothing, and has nothing.
func TestNilWriter(t *testing.T) {
	var w *Writer
	for _, p := range puts() {
		p.do(w)
		if w.Text() != "" || w.Len() != 0 {
			t.Errorf("%s of nil: %x, %d", p.name, w.Text(), w.Len())
		}
	}
}

// part puts one thing of lots, and answers what must take it again.
func part(w *Writer, lots *rand.Rand) func(r *Reader) bool {
	n := lots.Uint64() >> lots.Intn(64)
	text := strings.Repeat(string([]byte{byte(n)}), lots.Intn(300))
	h := someHash(lots)
	switch lots.Intn(9) {
	case 0:
		w.Byte(byte(n))
		return func(r *Reader) bool { return r.Byte() == byte(n) }
	case 1:
		w.U16(uint16(n))
		return func(r *Reader) bool { return r.U16() == uint16(n) }
	case 2:
		w.U32(uint32(n))
		return func(r *Reader) bool { return r.U32() == uint32(n) }
	case 3:
		w.U64(n)
		return func(r *Reader) bool { return r.U64() == n }
	case 4:
		w.Big16(uint16(n))
		return func(r *Reader) bool { return r.Big16() == uint16(n) }
	case 5:
		w.Count(n)
		return func(r *Reader) bool { return r.Count(n) == n }
	case 6:
		w.Bytes(text)
		return func(r *Reader) bool { return r.Bytes(len(text)) == text }
	case 7:
		w.String(text)
		return func(r *Reader) bool { return r.String(len(text)) == text }
	}
	w.Hash(h)
	w.Bool(n&1 == 1)
	return func(r *Reader) bool { return r.Hash() == h && r.Bool() == (n&1 == 1) }
}

// Promise 1.5: what a writer put a reader takes, whole and to the end.
func TestWhatIsPutIsTaken(t *testing.T) {
	lots := rand.New(rand.NewSource(5))
	for range 500 {
		w := NewWriter()
		var takes []func(r *Reader) bool
		var ends []int
		for range lots.Intn(20) {
			takes = append(takes, part(w, lots))
			ends = append(ends, w.Len())
		}
		r := NewReader(w.Text())
		for i, take := range takes {
			if !take(r) || r.At() != ends[i] || r.Left() != w.Len()-ends[i] || r.Err() != api.OK {
				t.Fatalf("part %d of %x: at %d, error %d", i, w.Text(), r.At(), r.Err())
			}
		}
		if e := r.End(); e != api.OK {
			t.Fatalf("End: %d", e)
		}
	}
}
