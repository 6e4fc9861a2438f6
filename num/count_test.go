package num

import (
	"encoding/binary"
	"math"
	"math/rand"
	"strings"
	"testing"

	"bedrock/api"
)

// countEdges has both sides of each edge between two forms.
func countEdges() map[uint64]string {
	return map[uint64]string{
		0:                     "\x00",
		1:                     "\x01",
		127:                   "\x7f",
		128:                   "\x80",
		251:                   "\xfb",
		252:                   "\xfc",
		253:                   "\xfd\xfd\x00",
		254:                   "\xfd\xfe\x00",
		255:                   "\xfd\xff\x00",
		256:                   "\xfd\x00\x01",
		258:                   "\xfd\x02\x01",
		65534:                 "\xfd\xfe\xff",
		65535:                 "\xfd\xff\xff",
		65536:                 "\xfe\x00\x00\x01\x00",
		0x04030201:            "\xfe\x01\x02\x03\x04",
		4294967294:            "\xfe\xfe\xff\xff\xff",
		4294967295:            "\xfe\xff\xff\xff\xff",
		4294967296:            "\xff\x00\x00\x00\x00\x01\x00\x00\x00",
		0x0807060504030201:    "\xff\x01\x02\x03\x04\x05\x06\x07\x08",
		1 << 63:               "\xff\x00\x00\x00\x00\x00\x00\x00\x80",
		math.MaxUint64 - 1:    "\xff\xfe\xff\xff\xff\xff\xff\xff\xff",
		math.MaxUint64:        "\xff\xff\xff\xff\xff\xff\xff\xff\xff",
		math.MaxInt64:         "\xff\xff\xff\xff\xff\xff\xff\xff\x7f",
		0x00fe_0000_0000_fdff: "\xff\xff\xfd\x00\x00\x00\x00\xfe\x00",
	}
}

// Promise 1.1: a count's bytes, and how many there are.
func TestCountBytes(t *testing.T) {
	for n, want := range countEdges() {
		if got := Count(n); got != want {
			t.Errorf("Count(%d) = %x, not %x", n, got, want)
		}
		if got := CountLong(n); got != len(want) {
			t.Errorf("CountLong(%d) = %d, not %d", n, got, len(want))
		}
	}
}

// Promise 1.1: each number's count is taken where it stands, and the place behind it is told.
func TestTakeCountGood(t *testing.T) {
	for n, raw := range countEdges() {
		for _, ahead := range []string{"", "a", "\xfd\xfe\xff"} {
			for _, behind := range []string{"", "b", "\xff\xff\xff\xff\xff\xff\xff\xff\xff\xff"} {
				got, at, e := TakeCount(ahead+raw+behind, len(ahead))
				if got != n || at != len(ahead)+len(raw) || e != api.OK {
					t.Errorf("TakeCount(%x %x %x) = %d, %d, %d", ahead, raw, behind, got, at, e)
				}
			}
		}
	}
}

// Promise 1.1: a place below 0 and one above the length, ahead of all else that is wrong.
func TestTakeCountPlace(t *testing.T) {
	for _, s := range []string{"", "\x01", "\xfd\x05\x00", "\xfd", "\xfd\xff\xff"} {
		for _, at := range []int{-1, -2, math.MinInt, len(s) + 1, len(s) + 2, math.MaxInt} {
			if n, behind, e := TakeCount(s, at); n != 0 || behind != 0 || e != api.ErrArg {
				t.Errorf("TakeCount(%x, %d) = %d, %d, %d", s, at, n, behind, e)
			}
		}
		if n, behind, e := TakeCount(s, len(s)); n != 0 || behind != 0 || e != api.ErrCut {
			t.Errorf("TakeCount(%x) at its end = %d, %d, %d", s, n, behind, e)
		}
	}
}

// Promise 1.1: bytes that are not all there, each form at each length, ahead of a form that is not the shortest.
func TestTakeCountCut(t *testing.T) {
	for first, long := range map[string]int{"\xfd": 2, "\xfe": 4, "\xff": 8} {
		for have := range long {
			for _, fill := range []string{"\x00", "\xff"} {
				s := "ab" + first + strings.Repeat(fill, have)
				if n, behind, e := TakeCount(s, 2); n != 0 || behind != 0 || e != api.ErrCut {
					t.Errorf("TakeCount(%x, 2) = %d, %d, %d", s, n, behind, e)
				}
			}
		}
	}
}

// Promise 1.1: a number in a form that is not its shortest is refused, also where more bytes stand behind it.
func TestTakeCountForm(t *testing.T) {
	for _, s := range []string{
		"\xfd\x00\x00",
		"\xfd\x05\x00",
		"\xfd\xfc\x00",
		"\xfe\x00\x00\x00\x00",
		"\xfe\xfc\x00\x00\x00",
		"\xfe\xfd\x00\x00\x00",
		"\xfe\xff\xff\x00\x00",
		"\xff\x00\x00\x00\x00\x00\x00\x00\x00",
		"\xff\xfc\x00\x00\x00\x00\x00\x00\x00",
		"\xff\xfd\x00\x00\x00\x00\x00\x00\x00",
		"\xff\xff\xff\x00\x00\x00\x00\x00\x00",
		"\xff\x00\x00\x01\x00\x00\x00\x00\x00",
		"\xff\xff\xff\xff\xff\x00\x00\x00\x00",
	} {
		for _, behind := range []string{"", "\x01\x02"} {
			if n, at, e := TakeCount("x"+s+behind, 1); n != 0 || at != 0 || e != api.ErrForm {
				t.Errorf("TakeCount(%x) = %d, %d, %d", s, n, at, e)
			}
		}
	}
}

// wantCount is a count by the library's numbers in bytes.
func wantCount(n uint64) string {
	switch {
	case n < 253:
		return string([]byte{byte(n)})
	case n < 1<<16:
		return string(binary.LittleEndian.AppendUint16([]byte{253}, uint16(n)))
	case n < 1<<32:
		return string(binary.LittleEndian.AppendUint32([]byte{254}, uint32(n)))
	}
	return string(binary.LittleEndian.AppendUint64([]byte{255}, n))
}

// Promises 1.1 and 1.5: numbers of all sizes go in and out.
func TestCountOfMany(t *testing.T) {
	lots := rand.New(rand.NewSource(1))
	check := func(n uint64) {
		raw := Count(n)
		if raw != wantCount(n) || CountLong(n) != len(raw) {
			t.Fatalf("Count(%d) = %x, CountLong %d", n, raw, CountLong(n))
		}
		if got, at, e := TakeCount(raw, 0); got != n || at != len(raw) || e != api.OK {
			t.Fatalf("TakeCount(Count(%d)) = %d, %d, %d", n, got, at, e)
		}
	}
	for n := range uint64(70000) {
		check(n)
	}
	for range 20000 {
		check(lots.Uint64() >> lots.Intn(64))
	}
}

// Promise 1.1: whatever stands in a text, what is taken of it is the shortest form of what is told.
func TestTakeCountOfAnything(t *testing.T) {
	lots := rand.New(rand.NewSource(2))
	for range 50000 {
		raw := make([]byte, lots.Intn(12))
		for i := range raw {
			raw[i] = []byte{0, 1, 252, 253, 254, 255, byte(lots.Intn(256))}[lots.Intn(7)]
		}
		s, at := string(raw), lots.Intn(len(raw)+3)-1
		n, behind, e := TakeCount(s, at)
		if e == api.OK {
			if at < 0 || behind > len(s) || s[at:behind] != wantCount(n) {
				t.Fatalf("TakeCount(%x, %d) = %d, %d", s, at, n, behind)
			}
			continue
		}
		if n != 0 || behind != 0 {
			t.Fatalf("TakeCount(%x, %d) = %d, %d, %d", s, at, n, behind, e)
		}
		if want := countError(s, at); e != want {
			t.Fatalf("TakeCount(%x, %d): %d, not %d", s, at, e, want)
		}
	}
}

// countError is why no count stands in a text.
func countError(s string, at int) api.Errno {
	if at < 0 || at > len(s) {
		return api.ErrArg
	}
	rest := s[at:]
	if rest == "" || len(rest) < []int{1, 3, 5, 9}[max(0, int(rest[0])-252)] {
		return api.ErrCut
	}
	return api.ErrForm
}
