package index

import (
	"encoding/hex"
	"math"
	"math/rand"
	"slices"
	"strings"
	"testing"

	"bedrock/api"
)

// someHeader has no byte twice at places that could be mixed up.
func someHeader() api.Header {
	h := api.Header{Version: 0x04030201, Time: 0x84838281, Bits: 0x94939291, Nonce: 0xa4a3a2a1}
	for i := range 32 {
		h.Prev[i], h.Root[i] = byte(0x10+i), byte(0x40+i)
	}
	return h
}

// bounds is entries that may be and that may not be, at each bound of each number.
func bounds() (good, bad []api.Entry) {
	most := math.MaxInt32
	for _, x := range []struct {
		field      func(x *api.Entry) *int
		good, over []int
	}{
		{func(x *api.Entry) *int { return &x.Height }, []int{0, 1, 255, 256, 19999, 20000}, []int{-1, 20001, 20002, 65536, most, most + 1, 1 << 32, 1<<32 + 1}},
		{func(x *api.Entry) *int { return &x.State }, []int{0, 1, 2, 3, 4, 5, 6, 7, 8, 9, 10, 11, 12, 13, 14, 15}, []int{-1, -15, 16, 17, 31, 128, 255, 256, 257}},
		{func(x *api.Entry) *int { return &x.File }, []int{0, 1, 255, 256, 65536, 1 << 24, most - 1, most}, []int{-1, most + 1, most + 2, 1<<32 - 1, 1 << 32, 1<<32 + 1}},
		{func(x *api.Entry) *int { return &x.At }, []int{0, 1, 255, 256, 65536, 1 << 24, most - 1, most}, []int{-1, most + 1, most + 2, 1<<32 - 1, 1 << 32, 1<<32 + 1}},
		{func(x *api.Entry) *int { return &x.Long }, []int{0, 1, 255, 256, 65536, 1 << 24, most - 1, most}, []int{-1, most + 1, most + 2, 1<<32 - 1, 1 << 32, 1<<32 + 1}},
	} {
		for _, base := range []api.Entry{{}, {Header: someHeader(), Height: 3, State: 2, File: 5, At: 6, Long: 7}} {
			for _, n := range x.good {
				*x.field(&base) = n
				good = append(good, base)
			}
			for _, n := range append(x.over, math.MinInt, math.MinInt32, math.MaxInt) {
				*x.field(&base) = n
				bad = append(bad, base)
			}
		}
	}
	return good, bad
}

// Promise 13.1: the 97 bytes of one entry, written out.
func TestBytesWrittenOut(t *testing.T) {
	x := api.Entry{Header: someHeader(), Height: 0x4e01, State: 13, File: 0x71625344, At: 0x7f010203, Long: 0x00c0b0a0}
	want := "01020304" +
		"101112131415161718191a1b1c1d1e1f202122232425262728292a2b2c2d2e2f" +
		"404142434445464748494a4b4c4d4e4f505152535455565758595a5b5c5d5e5f" +
		"81828384" + "91929394" + "a1a2a3a4" +
		"014e0000" + "0d" + "44536271" + "0302017f" + "a0b0c000"
	s, e := Bytes(x)
	if hex.EncodeToString([]byte(s)) != want || len(s) != 97 || e != api.OK {
		t.Fatalf("Bytes: %x, %d", s, e)
	}
	if back, e := Take(s); back != x || e != api.OK {
		t.Fatalf("Take: %v, %d", back, e)
	}
}

// Promise 13.1: entries at each bound, there and back; those past it are refused.
func TestBytesBounds(t *testing.T) {
	good, bad := bounds()
	for _, x := range good {
		s, e := Bytes(x)
		if s != wantBytes(x) || e != api.OK {
			t.Fatalf("Bytes(%v): %x, %d", x, s, e)
		}
		if back, e := Take(s); back != x || e != api.OK {
			t.Fatalf("Take of %v: %v, %d", x, back, e)
		}
	}
	for _, x := range bad {
		if s, e := Bytes(x); s != "" || e != api.ErrEntry {
			t.Fatalf("Bytes(%v): %x, %d", x, s, e)
		}
	}
}

// Promise 13.1: bytes that say a number past its bound.
func TestTakeBounds(t *testing.T) {
	for _, x := range []struct {
		at   int
		long int
		n    uint32
		good bool
	}{
		{80, 4, 20000, true}, {80, 4, 20001, false}, {80, 4, 0x01000000, false}, {80, 4, 1<<31 - 1, false}, {80, 4, 1 << 31, false}, {80, 4, 1<<32 - 1, false},
		{84, 1, 15, true}, {84, 1, 16, false}, {84, 1, 17, false}, {84, 1, 128, false}, {84, 1, 255, false},
		{85, 4, 1<<31 - 1, true}, {85, 4, 1 << 31, false}, {85, 4, 1<<32 - 1, false},
		{89, 4, 1<<31 - 1, true}, {89, 4, 1 << 31, false}, {89, 4, 1<<32 - 1, false},
		{93, 4, 1<<31 - 1, true}, {93, 4, 1 << 31, false}, {93, 4, 1<<32 - 1, false},
	} {
		b := []byte(wantBytes(with(first(), 3)))
		for i := range x.long {
			b[x.at+i] = byte(x.n >> (8 * i))
		}
		got, e := Take(string(b))
		if x.good && (e != api.OK || wantBytes(got) != string(b)) {
			t.Fatalf("Take with %d at %d: %v, %d", x.n, x.at, got, e)
		}
		if !x.good && (got != (api.Entry{}) || e != api.ErrEntry) {
			t.Fatalf("Take with %d at %d: %v, %d", x.n, x.at, got, e)
		}
	}
}

// Promise 13.1: texts of all lengths around 97; that they are too short or too long comes ahead of what they say.
func TestTakeLengths(t *testing.T) {
	for _, s := range []string{wantBytes(with(first(), 3)), strings.Repeat("\xff", 97), strings.Repeat("\x00", 97)} {
		for n := range 97 {
			if x, e := Take(s[:n]); x != (api.Entry{}) || e != api.ErrCut {
				t.Fatalf("Take of %d bytes: %v, %d", n, x, e)
			}
		}
		for _, n := range []int{1, 2, 97, 65536} {
			for _, tail := range []string{"\x00", "\xff"} {
				if x, e := Take(s + strings.Repeat(tail, n)); x != (api.Entry{}) || e != api.ErrMore {
					t.Fatalf("Take of %d bytes: %v, %d", 97+n, x, e)
				}
			}
		}
	}
	if x, e := Take(strings.Repeat("\xff", 97)); x != (api.Entry{}) || e != api.ErrEntry {
		t.Fatalf("Take of 97 bytes of 255: %v, %d", x, e)
	}
	if x, e := Take(strings.Repeat("\x00", 97)); x != (api.Entry{}) || e != api.OK {
		t.Fatalf("Take of 97 zeros: %v, %d", x, e)
	}
}

// Promise 13.1: bytes by lots: what Take takes are just the bytes of entries that may be.
func TestTakeByLots(t *testing.T) {
	lots := rand.New(rand.NewSource(13))
	var good int
	for range 20000 {
		b := make([]byte, 97)
		lots.Read(b[:80])
		for _, i := range []int{80, 81, 84, 88, 92, 96} {
			b[i] = byte(lots.Intn(256) >> lots.Intn(9))
		}
		want := slices.Max(b[82:84]) == 0 && int(b[80])+256*int(b[81]) <= 20000 && b[84] < 16 && max(b[88], b[92], b[96]) < 128
		x, e := Take(string(b))
		if want && (e != api.OK || wantBytes(x) != string(b)) || !want && (e != api.ErrEntry || x != api.Entry{}) {
			t.Fatalf("Take(%x): %v, %d", b, x, e)
		}
		if want {
			good++
			if s, e := Bytes(x); s != string(b) || e != api.OK {
				t.Fatalf("Bytes: %x, %d, not %x", s, e, b)
			}
		}
	}
	if good < 1000 || good > 19000 {
		t.Fatalf("the lots are no good: %d", good)
	}
}
