package num

import (
	"math"
	"strings"
	"testing"

	"bedrock/api"
)

// call is a reader's taking call, with what it answers as one comparable value.
type call struct {
	name string
	do   func(r *Reader) any
	zero any
}

// calls is every taking call, each with arguments at which bytes may be taken.
func calls() []call {
	return []call{
		{"Byte", func(r *Reader) any { return r.Byte() }, byte(0)},
		{"U16", func(r *Reader) any { return r.U16() }, uint16(0)},
		{"U32", func(r *Reader) any { return r.U32() }, uint32(0)},
		{"U64", func(r *Reader) any { return r.U64() }, uint64(0)},
		{"Big16", func(r *Reader) any { return r.Big16() }, uint16(0)},
		{"Count", func(r *Reader) any { return r.Count(math.MaxUint64) }, uint64(0)},
		{"Count of at most 0", func(r *Reader) any { return r.Count(0) }, uint64(0)},
		{"Bytes", func(r *Reader) any { return r.Bytes(1) }, ""},
		{"Bytes of none", func(r *Reader) any { return r.Bytes(0) }, ""},
		{"Bytes below 0", func(r *Reader) any { return r.Bytes(-1) }, ""},
		{"String", func(r *Reader) any { return r.String(math.MaxInt) }, ""},
		{"String below 0", func(r *Reader) any { return r.String(-1) }, ""},
		{"Hash", func(r *Reader) any { return r.Hash() }, api.Hash{}},
		{"Bool", func(r *Reader) any { return r.Bool() }, false},
	}
}

// stands tells where a reader is other than it should be.
func stands(t *testing.T, what string, r *Reader, at, left int, e api.Errno) {
	t.Helper()
	if r.At() != at || r.Left() != left || r.Err() != e {
		t.Errorf("%s: at %d, left %d, error %d; not %d, %d, %d", what, r.At(), r.Left(), r.Err(), at, left, e)
	}
}

// Promise 1.3: numbers with the lowest byte first, Big16 with the highest.
func TestReaderNumbers(t *testing.T) {
	r := NewReader("\x81\x82\x83\x84\x85\x86\x87\x88\x89\x8a\x8b\x8c\x8d\x8e\x8f\x90\x91\x92")
	stands(t, "at first", r, 0, 18, api.OK)
	if n := r.Byte(); n != 0x81 {
		t.Errorf("Byte: %x", n)
	}
	stands(t, "Byte", r, 1, 17, api.OK)
	if n := r.U16(); n != 0x8382 {
		t.Errorf("U16: %x", n)
	}
	stands(t, "U16", r, 3, 15, api.OK)
	if n := r.U32(); n != 0x87868584 {
		t.Errorf("U32: %x", n)
	}
	stands(t, "U32", r, 7, 11, api.OK)
	if n := r.U64(); n != 0x8f8e8d8c8b8a8988 {
		t.Errorf("U64: %x", n)
	}
	stands(t, "U64", r, 15, 3, api.OK)
	if n := r.Big16(); n != 0x9091 {
		t.Errorf("Big16: %x", n)
	}
	stands(t, "Big16", r, 17, 1, api.OK)
	if n := r.Byte(); n != 0x92 || r.End() != api.OK {
		t.Errorf("the last byte: %x, %d", n, r.End())
	}
	stands(t, "at the end", r, 18, 0, api.OK)
}

// Promise 1.3: a hash's bytes are in it in their order.
func TestReaderHash(t *testing.T) {
	h := rising()
	r := NewReader("a" + string(h[:]) + "b")
	r.Byte()
	if got := r.Hash(); got != h {
		t.Errorf("Hash: %x", got)
	}
	stands(t, "Hash", r, 33, 1, api.OK)
}

// Promise 1.3: with too few bytes ErrCut, a zero, and nothing is taken; with just enough OK.
func TestReaderCut(t *testing.T) {
	needs := map[string]int{"Byte": 1, "U16": 2, "U32": 4, "U64": 8, "Big16": 2, "Bytes": 1, "Hash": 32, "Bool": 1, "Count": 1, "Count of at most 0": 1, "String": 1}
	for _, c := range calls() {
		need := needs[c.name]
		for have := range need {
			s := "ab" + strings.Repeat("\xee", have)
			r := NewReader(s)
			r.U16()
			if got := c.do(r); got != c.zero {
				t.Errorf("%s of %d bytes: %v", c.name, have, got)
			}
			stands(t, c.name, r, 2, have, api.ErrCut)
		}
		if need > 0 {
			r := NewReader("ab" + strings.Repeat("\x00", need))
			r.U16()
			c.do(r)
			stands(t, c.name+" of just enough", r, 2+need, 0, api.OK)
		}
	}
}

// Promise 1.3: 0 is no, 1 is yes, and all else is refused and not taken.
func TestReaderBool(t *testing.T) {
	for b := range 256 {
		r := NewReader("x" + string([]byte{byte(b)}) + "\x01")
		r.Byte()
		got := r.Bool()
		if got != (b == 1) {
			t.Errorf("Bool of %d: %v", b, got)
		}
		if b < 2 {
			stands(t, "Bool", r, 2, 1, api.OK)
			continue
		}
		stands(t, "Bool", r, 1, 2, api.ErrForm)
		if r.Bool() || r.Byte() != 0 {
			t.Errorf("behind the error of %d", b)
		}
	}
}

// Promise 1.3: the next count, unless it is above the most.
func TestReaderCount(t *testing.T) {
	for n, raw := range countEdges() {
		s := "a" + raw + "b"
		for _, most := range []uint64{n, math.MaxUint64} {
			r := NewReader(s)
			r.Byte()
			if got := r.Count(most); got != n {
				t.Errorf("Count of at most %d: %d, not %d", most, got, n)
			}
			stands(t, "Count", r, 1+len(raw), 1, api.OK)
		}
		if n == 0 {
			continue
		}
		for _, most := range []uint64{n - 1, 0} {
			r := NewReader(s)
			r.Byte()
			if got := r.Count(most); got != 0 {
				t.Errorf("Count of at most %d: %d", most, got)
			}
			stands(t, "Count above its most", r, 1, len(raw)+1, api.ErrMore)
		}
	}
}

// Promise 1.3: the errors of TakeCount come ahead of ErrMore, and nothing is taken.
func TestReaderCountErrors(t *testing.T) {
	for s, want := range map[string]api.Errno{
		"":                                     api.ErrCut,
		"\xfd":                                 api.ErrCut,
		"\xfd\xff":                             api.ErrCut,
		"\xfe\xff\xff\xff":                     api.ErrCut,
		"\xff\xff\xff\xff\xff\xff\xff\xff":     api.ErrCut,
		"\xfd\x05\x00":                         api.ErrForm,
		"\xfd\xfc\x00":                         api.ErrForm,
		"\xfe\xff\xff\x00\x00":                 api.ErrForm,
		"\xff\xff\xff\xff\xff\x00\x00\x00\x00": api.ErrForm,
		"\x01":                                 api.ErrMore,
		"\xfd\xfd\x00":                         api.ErrMore,
	} {
		r := NewReader("ab" + s)
		r.U16()
		if n := r.Count(0); n != 0 {
			t.Errorf("Count of %x: %d", s, n)
		}
		stands(t, "Count", r, 2, len(s), want)
		r = NewReader("ab" + s)
		r.U16()
		if text := r.String(0); text != "" {
			t.Errorf("String of %x: %q", s, text)
		}
		stands(t, "String", r, 2, len(s), want)
	}
}

// Promise 1.3: so many bytes, none, all, too many, below 0.
func TestReaderBytes(t *testing.T) {
	r := NewReader("abcdef")
	if s := r.Bytes(2); s != "ab" {
		t.Errorf("Bytes(2): %q", s)
	}
	stands(t, "Bytes(2)", r, 2, 4, api.OK)
	if s := r.Bytes(0); s != "" {
		t.Errorf("Bytes(0): %q", s)
	}
	stands(t, "Bytes(0)", r, 2, 4, api.OK)
	if s := r.Bytes(4); s != "cdef" {
		t.Errorf("Bytes(4): %q", s)
	}
	stands(t, "Bytes(4)", r, 6, 0, api.OK)
	if s := r.Bytes(0); s != "" {
		t.Errorf("Bytes(0): %q", s)
	}
	stands(t, "Bytes(0) at the end", r, 6, 0, api.OK)
	for n, want := range map[int]api.Errno{5: api.ErrCut, 6: api.ErrCut, math.MaxInt: api.ErrCut, -1: api.ErrArg, math.MinInt: api.ErrArg} {
		r = NewReader("abcdef")
		r.U16()
		if s := r.Bytes(n); s != "" {
			t.Errorf("Bytes(%d): %q", n, s)
		}
		stands(t, "Bytes", r, 2, 4, want)
	}
}

// Promise 1.3: a count of at most so many, and so many bytes; with an error the count is not taken either.
func TestReaderString(t *testing.T) {
	long := strings.Repeat("z", 300)
	for _, x := range []struct {
		s         string
		most      int
		want      string
		at, left  int
		wantError api.Errno
	}{
		{"\x00", 0, "", 1, 0, api.OK},
		{"\x00a", 5, "", 1, 1, api.OK},
		{"\x03abcd", 3, "abc", 4, 1, api.OK},
		{"\x03abcd", math.MaxInt, "abc", 4, 1, api.OK},
		{"\x03abcd", 2, "", 0, 5, api.ErrMore},
		{"\x03ab", 3, "", 0, 3, api.ErrCut},
		{"\x03ab", 2, "", 0, 3, api.ErrMore},
		{"\x03", 3, "", 0, 1, api.ErrCut},
		{"", 3, "", 0, 0, api.ErrCut},
		{"\xfd\x2c\x01" + long, 300, long, 303, 0, api.OK},
		{"\xfd\x2c\x01" + long, 299, "", 0, 303, api.ErrMore},
		{"\xfd\x2d\x01" + long, 1000, "", 0, 303, api.ErrCut},
		{"\xfd\x03\x00abc", 3, "", 0, 6, api.ErrForm},
		{"\xff\xff\xff\xff\xff\xff\xff\xff\xff", math.MaxInt, "", 0, 9, api.ErrMore},
		{"\xff\xff\xff\xff\xff\xff\xff\xff\x7f", math.MaxInt64, "", 0, 9, api.ErrCut},
		{"\xff\x00\x00\x00\x00\x00\x00\x00\x80", math.MaxInt64, "", 0, 9, api.ErrMore},
		{"\x03abcd", -1, "", 0, 5, api.ErrArg},
		{"\x00", math.MinInt, "", 0, 1, api.ErrArg},
		{"", -1, "", 0, 0, api.ErrArg},
	} {
		r := NewReader("xy" + x.s)
		r.U16()
		if got := r.String(x.most); got != x.want {
			t.Errorf("String(%d) of %.12x: %q", x.most, x.s, got)
		}
		stands(t, "String", r, 2+x.at, x.left, x.wantError)
	}
}

// Promise 1.3: behind its first error a reader takes nothing, answers zeros, and keeps that error.
func TestReaderBehindAnError(t *testing.T) {
	rest := "\x01\x02" + strings.Repeat("\x01", 60)
	for _, first := range []struct {
		name string
		lay  func(r *Reader)
		want api.Errno
	}{
		{"cut", func(r *Reader) { r.Bytes(1000) }, api.ErrCut},
		{"argument", func(r *Reader) { r.Bytes(-1) }, api.ErrArg},
		{"string's argument", func(r *Reader) { r.String(-1) }, api.ErrArg},
		{"form", func(r *Reader) { r.U64(); r.Byte(); r.Bool() }, api.ErrForm},
		{"more", func(r *Reader) { r.Count(0) }, api.ErrMore},
		{"fail", func(r *Reader) { r.Fail(api.ErrHex) }, api.ErrHex},
		{"end", func(r *Reader) { r.End() }, api.ErrMore},
	} {
		for _, c := range calls() {
			r := NewReader(strings.Replace(rest, "\x01\x01\x01\x01\x01\x01\x01\x01", "\x01\x01\x01\x01\x01\x01\x01\x07", 1))
			first.lay(r)
			at, left := r.At(), r.Left()
			stands(t, first.name, r, at, len(rest)-at, first.want)
			if got := c.do(r); got != c.zero {
				t.Errorf("%s behind %s: %v", c.name, first.name, got)
			}
			stands(t, c.name+" behind "+first.name, r, at, left, first.want)
			r.Fail(api.ErrDead)
			if e := r.End(); e != first.want {
				t.Errorf("End behind %s: %d", first.name, e)
			}
			stands(t, "Fail and End behind "+first.name, r, at, left, first.want)
		}
	}
}

// Promise 1.3: the first error that is laid is kept; OK is none.
func TestReaderFail(t *testing.T) {
	r := NewReader("abc")
	r.Fail(api.OK)
	if b := r.Byte(); b != 'a' {
		t.Errorf("behind Fail(OK): %d", b)
	}
	stands(t, "Fail(OK)", r, 1, 2, api.OK)
	r.Fail(api.ErrHash)
	stands(t, "Fail", r, 1, 2, api.ErrHash)
	r.Fail(api.ErrCut)
	r.Fail(api.OK)
	stands(t, "Fail again", r, 1, 2, api.ErrHash)
	if e := r.End(); e != api.ErrHash {
		t.Errorf("End: %d", e)
	}
	for _, e := range []api.Errno{-1, 1 << 40} {
		r = NewReader("abc")
		r.Fail(e)
		stands(t, "Fail of any number", r, 0, 3, e)
	}
}

// Promise 1.3: bytes that are left are an error from End on.
func TestReaderEnd(t *testing.T) {
	r := NewReader("")
	if e := r.End(); e != api.OK {
		t.Errorf("End of no bytes: %d", e)
	}
	stands(t, "End of no bytes", r, 0, 0, api.OK)
	r = NewReader("ab")
	r.U16()
	if e := r.End(); e != api.OK {
		t.Errorf("End at the end: %d", e)
	}
	if e := r.End(); e != api.OK {
		t.Errorf("End again: %d", e)
	}
	if r.Byte(); r.Err() != api.ErrCut || r.End() != api.ErrCut {
		t.Errorf("End behind ErrCut: %d", r.End())
	}
	r = NewReader("ab")
	r.Byte()
	stands(t, "ahead of End", r, 1, 1, api.OK)
	if e := r.End(); e != api.ErrMore {
		t.Errorf("End with a byte left: %d", e)
	}
	if b := r.Byte(); b != 0 {
		t.Errorf("behind End: %d", b)
	}
	stands(t, "behind End", r, 1, 1, api.ErrMore)
}

// Promise 1.3: readers of one text do not hang on one another.
func TestReadersApart(t *testing.T) {
	s := "abcd"
	a, b := NewReader(s), NewReader(s)
	a.U16()
	a.Fail(api.ErrForm)
	if got := b.Bytes(4); got != s || b.End() != api.OK {
		t.Errorf("the other reader: %q, %d", got, b.End())
	}
}

// Promise 1.4: a nil reader answers zeros, and ErrArg as its error.
func TestNilReader(t *testing.T) {
	var r *Reader
	for _, c := range calls() {
		if got := c.do(r); got != c.zero {
			t.Errorf("%s of nil: %v", c.name, got)
		}
	}
	r.Fail(api.ErrForm)
	stands(t, "nil", r, 0, 0, api.ErrArg)
	if e := r.End(); e != api.ErrArg {
		t.Errorf("End of nil: %d", e)
	}
}
