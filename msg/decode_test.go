package msg

import (
	"math"
	"math/rand"
	"reflect"
	"slices"
	"strings"
	"testing"

	"bedrock/api"
)

var (
	zeros = strings.Repeat("\x00", 32)
	head  = strings.Repeat("h", 80)
)

// Promise 9.3: what is no kind, ahead of all else; then what is too long, ahead of all that is wrong inside.
func TestDecodeFirst(t *testing.T) {
	for _, kind := range noKinds {
		for _, n := range []int{0, 8, 16384, 16385} {
			faults(t, kind, strings.Repeat("\xff", n), 0, api.ErrKind)
		}
	}
	for kind := 1; kind <= 18; kind++ {
		for _, b := range []string{"\x00", "\xff", "\xfd"} {
			faults(t, kind, strings.Repeat(b, 16385), 0, api.ErrLong)
			faults(t, kind, strings.Repeat(b, 40000), 0, api.ErrLong)
			if _, _, e := decodes(t, kind, strings.Repeat(b, 16384)); e == api.ErrLong {
				t.Errorf("a %s of 16384 bytes is too long", commands[kind])
			}
		}
	}
}

// begins is a payload of each kind but those that are all one text, and where its parts begin; a count and the bytes of a text behind it are two of them.
var begins = []struct {
	kind    int
	payload string
	parts   []int
}{
	{1, strings.Repeat("\x00", 80) + "\x05agent" + "\x01\x00\x00\x00\x01", []int{0, 4, 12, 20, 28, 44, 46, 54, 70, 72, 80, 81, 86, 90}},
	{1, strings.Repeat("\x00", 80) + "\x40" + strings.Repeat("a", 64) + "\x01\x00\x00\x00\x01", []int{0, 4, 12, 20, 28, 44, 46, 54, 70, 72, 80, 81, 145, 149}},
	{1, strings.Repeat("\x00", 86), []int{0, 4, 12, 20, 28, 44, 46, 54, 70, 72, 80, 81, 85}},
	{2, "", nil}, {3, "", nil}, {4, "", nil},
	{5, "12345678", []int{0}}, {6, "12345678", []int{0}},
	{7, "\x00", []int{0}},
	{7, "\x02" + strings.Repeat("a", 60), []int{0, 1, 5, 13, 29, 31, 35, 43, 59}},
	{8, "\x02" + strings.Repeat("i", 72), []int{0, 1, 5, 37, 41}},
	{9, "\x02" + strings.Repeat("i", 72), []int{0, 1, 5, 37, 41}},
	{10, "\x02" + strings.Repeat("i", 72), []int{0, 1, 5, 37, 41}},
	{11, "vers\x02" + strings.Repeat("h", 96), []int{0, 4, 5, 37, 69}},
	{11, "vers\x00" + strings.Repeat("h", 32), []int{0, 4, 5}},
	{12, "\x02" + head + "\x00" + head + "\x00", []int{0, 1, 81, 82, 162}},
	{15, "\x0112345678", []int{0, 1}},
	{16, head + "12345678\x02shortsshorts\x03\x00\x02ab\xfd\x00\x01\x00\x01\x01z", []int{0, 80, 88, 89, 95, 101, 102, 103, 104, 106, 109, 110, 111, 112}},
	{16, head + "12345678\x00\x02\x05\xfd\x00\x10" + strings.Repeat("r", 4096) + "\xfd\xf8\xff\xfd\xfd\x00" + strings.Repeat("r", 253), []int{0, 80, 88, 89, 90, 91, 94, 4190, 4193, 4196}},
	{16, head + "12345678\xfd\xfd\x00" + strings.Repeat("shorts", 253) + "\x00", append(append([]int{0, 80, 88}, steps(91, 6, 253)...), 91+253*6)},
	{17, zeros + "\x03\x00\xfd\x00\x01\x05", []int{0, 32, 33, 34, 37}},
	{18, zeros + "\x03\x02ab\x00\xfd\x00\x01" + strings.Repeat("r", 256), []int{0, 32, 33, 34, 36, 37, 40}},
	{18, zeros + "\x03\xfd\x00\x10" + strings.Repeat("r", 4096) + "\xfc" + strings.Repeat("r", 252) + "\x00", []int{0, 32, 33, 36, 4132, 4133, 4385}},
}

// steps is n places that are so far apart, from the first on.
func steps(first, far, n int) []int {
	var l []int
	for i := range n {
		l = append(l, first+far*i)
	}
	return l
}

// Promise 9.3: every beginning of each kind's payload is cut at the part that is not all there, and each with more behind it has something left.
func TestDecodeCut(t *testing.T) {
	for _, x := range begins {
		s := x.payload
		if _, at, e := decodes(t, x.kind, s); at != 0 || e != api.OK {
			t.Fatalf("a good %s: %d %d", commands[x.kind], at, e)
		}
		for n := range len(s) {
			part := x.parts[len(x.parts)-1]
			for i, start := range x.parts {
				if start > n {
					part = x.parts[i-1]
					break
				}
			}
			faults(t, x.kind, s[:n], part, api.ErrCut)
		}
		for _, more := range []string{"\x00", "\x01", "\xff", "\xfd\x00", "m" + s, strings.Repeat("m", 9000)} {
			faults(t, x.kind, s+more, len(s), api.ErrMore)
		}
	}
}

// Promise 9.3: the same of messages by lots, and of all that a transaction or a block can be.
func TestDecodeLotsCut(t *testing.T) {
	lots := rand.New(rand.NewSource(91))
	for kind := 1; kind <= 18; kind++ {
		for _, n := range []int{0, 1, 2, 5, 64} {
			m := lotMsg(lots, kind, n)
			s, e := Encode(m)
			if back, _, _ := decodes(t, kind, s); e != api.OK || !wantSame(back, m) {
				t.Fatalf("a %s with %d elements comes back as %v", commands[kind], n, back)
			}
			for end := range len(s) {
				if _, _, e := decodes(t, kind, s[:end]); (e == api.ErrCut) != (kind != 13 && kind != 14) {
					t.Fatalf("%d bytes of a %s: %d", end, commands[kind], e)
				}
			}
			for b := range 256 {
				if _, _, e := decodes(t, kind, s+string([]byte{byte(b)})); (e == api.ErrMore) != (kind != 13 && kind != 14) {
					t.Fatalf("a %s and a byte: %d", commands[kind], e)
				}
			}
		}
	}
}

// counted is each place where a count of a most stands: what is ahead of it, and what stands behind it if it is 0.
var counted = []struct {
	kind          int
	ahead, behind string
	most          uint64
}{
	{1, strings.Repeat("\x00", 80), "\x00\x00\x00\x00\x00", 64},
	{7, "", "", 100},
	{8, "", "", 500}, {9, "", "", 500}, {10, "", "", 500},
	{11, "vers", zeros, 64},
	{12, "", "", 100},
	{16, head + "12345678", "\x00", 500},
	{16, head + "12345678\x00", "", 500},
	{16, head + "12345678\x01shorts", "", 500},
	{16, head + "12345678\x00\x01\x07", "", 4096},
	{16, head + "12345678\x00\x02\x07\x01x\x00", "", 4096},
	{17, zeros, "", 500},
	{18, zeros, "", 500},
	{18, zeros + "\x01", "", 4096},
	{18, zeros + "\x02\x01x", "", 4096},
}

// badForms is counts that are not in their shortest form.
var badForms = []string{"\xfd\x00\x00", "\xfd\x01\x00", "\xfd\xfc\x00", "\xfe\x00\x00\x00\x00", "\xfe\x05\x00\x00\x00", "\xfe\xff\xff\x00\x00", "\xff\x00\x00\x00\x00\x00\x00\x00\x00", "\xff\xff\xff\xff\xff\x00\x00\x00\x00"}

// Promise 9.3: each count that is not in its shortest form, above its most or cut, with the place at which it begins.
func TestDecodeCounts(t *testing.T) {
	for _, x := range counted {
		at := len(x.ahead)
		if _, _, e := decodes(t, x.kind, x.ahead+"\x00"+x.behind); e != api.OK {
			t.Errorf("a %s with a count of 0 at %d: %d", commands[x.kind], at, e)
		}
		for _, behind := range []string{"", x.behind, strings.Repeat("\x00", 9000)} {
			for _, c := range badForms {
				faults(t, x.kind, x.ahead+c+behind, at, api.ErrForm)
				for n := range c {
					faults(t, x.kind, x.ahead+c[:n], at, api.ErrCut)
				}
			}
			for _, n := range []uint64{x.most + 1, x.most + 2, 5000, 65535, 65536, 1 << 31, 1<<32 - 1, 1 << 32, 1<<32 + 1, 1<<63 - 1, 1 << 63, math.MaxUint64 - 1, math.MaxUint64} {
				faults(t, x.kind, x.ahead+count(n)+behind, at, api.ErrMore)
			}
		}
		if _, _, e := decodes(t, x.kind, x.ahead+count(x.most)); e != api.ErrCut {
			t.Errorf("a %s with a count of %d and nothing behind it: %d", commands[x.kind], x.most, e)
		}
	}
}

// Promise 9.3: a Relay and a High are 0 or 1.
func TestDecodeYes(t *testing.T) {
	version := strings.Repeat("\x00", 85)
	for b := range 256 {
		c := string([]byte{byte(b)})
		if b > 1 {
			faults(t, 1, version+c, 85, api.ErrForm)
			faults(t, 1, version+c+"more", 85, api.ErrForm)
			faults(t, 15, c+"12345678", 0, api.ErrForm)
			faults(t, 15, c, 0, api.ErrForm)
			continue
		}
		if m, _, e := decodes(t, 1, version+c); m.Relay != (b == 1) || e != api.OK {
			t.Errorf("Relay of %d: %v %d", b, m.Relay, e)
		}
		if m, _, e := decodes(t, 15, c+"12345678"); m.High != (b == 1) || e != api.OK {
			t.Errorf("High of %d: %v %d", b, m.High, e)
		}
	}
}

// Promise 9.3: the count behind a header is 0, in one byte.
func TestDecodeHeads(t *testing.T) {
	for heads := range 4 {
		ahead := strings.Repeat(head+"\x00", heads) + head
		s := "\x05" + ahead
		for _, n := range []uint64{1, 2, 100, 252, 253, 65535, 65536, 1 << 32, math.MaxUint64} {
			faults(t, 12, s+count(n), len(s), api.ErrForm)
			faults(t, 12, s+count(n)+strings.Repeat("\x00", 500), len(s), api.ErrForm)
		}
		for _, c := range badForms {
			faults(t, 12, s+c, len(s), api.ErrForm)
			for n := range c {
				faults(t, 12, s+c[:n], len(s), api.ErrCut)
			}
		}
	}
}

// Promise 9.3: places up to 65535 and beyond, the first one and later ones, in both kinds that have some; counts that are cut or not of the form come first.
func TestDecodePlaces(t *testing.T) {
	for _, x := range []struct {
		gaps []uint64
		bad  int // the first that is too far; as many as there are: none
	}{
		{[]uint64{0}, 1}, {[]uint64{65534}, 1}, {[]uint64{65535}, 1}, {[]uint64{65536}, 0}, {[]uint64{math.MaxUint64}, 0}, {[]uint64{1 << 63}, 0}, {[]uint64{1 << 32}, 0},
		{[]uint64{0, 65534}, 2}, {[]uint64{0, 65535}, 1}, {[]uint64{1, 65533}, 2}, {[]uint64{1, 65534}, 1},
		{[]uint64{65534, 0}, 2}, {[]uint64{65534, 1}, 1}, {[]uint64{65535, 0}, 1}, {[]uint64{65535, 1}, 1}, {[]uint64{65535, math.MaxUint64}, 1}, {[]uint64{65535, 65535}, 1},
		{[]uint64{0, math.MaxUint64}, 1}, {[]uint64{0, math.MaxUint64 - 1}, 1}, {[]uint64{5, math.MaxUint64 - 5}, 1}, {[]uint64{5, 1<<63 - 1}, 1}, {[]uint64{5, 1 << 63}, 1},
		{[]uint64{65533, 0, 0}, 3}, {[]uint64{65533, 0, 1}, 2}, {[]uint64{65533, 0, 0, 0}, 3}, {[]uint64{0, 0, 0, 65532}, 4}, {[]uint64{0, 0, 0, 65533}, 3}, {[]uint64{65535, 0, 0}, 1},
	} {
		for _, kind := range []int{16, 17} {
			s, behind := zeros+count(uint64(len(x.gaps))), ""
			if kind == 16 {
				s, behind = head+"12345678\x00"+count(uint64(len(x.gaps))), "\x01r"
			}
			bad := 0
			for i, gap := range x.gaps {
				if i == x.bad {
					bad = len(s)
					for _, c := range badForms {
						faults(t, kind, s+c, bad, api.ErrForm)
					}
					faults(t, kind, s, bad, api.ErrCut)
					faults(t, kind, s+"\xfd\x00", bad, api.ErrCut)
				}
				s += count(gap) + behind
			}
			if x.bad < len(x.gaps) {
				faults(t, kind, s, bad, api.ErrMore)
			} else {
				faults(t, kind, s, 0, api.OK)
			}
		}
	}
}

// Promise 9.3: of several faults the first one that stands there is told.
func TestDecodeOrder(t *testing.T) {
	faults(t, 1, strings.Repeat("\x00", 80)+"\x41"+"\x00\x00\x00\x00\x02", 80, api.ErrMore)
	faults(t, 1, strings.Repeat("\x00", 80)+"\x00\x00\x00\x00\x00\x02\x00", 85, api.ErrForm)
	faults(t, 12, "\x02"+head+"\x01"+head[1:], 81, api.ErrForm)
	faults(t, 15, "\x021234", 0, api.ErrForm)
	faults(t, 16, head+"12345678\x01short", 89, api.ErrCut)
	faults(t, 16, head+"12345678\xfd\xf5\x01\xfd\xf5\x01", 88, api.ErrMore)
	faults(t, 16, head+"12345678\x00\x01\xfe\x00\x00\x01\x00\xfd\x01\x10", 90, api.ErrMore)
	faults(t, 18, zeros+"\x02\xfd\x01\x10\xfd\x00\x00", 33, api.ErrMore)
	faults(t, 18, zeros+"\x02\x03ab", 34, api.ErrCut)
}

// texts is each place where a text with a count ahead of it stands: what is ahead of the count, and how many bytes the text may have.
var texts = []struct {
	kind  int
	ahead string
	most  int
}{
	{1, strings.Repeat("\x00", 80), 64},
	{16, head + "12345678\x00\x01\x00", 4096},
	{16, head + "12345678\x01shorts\x03\x09\x02ab\x00", 4096},
	{18, zeros + "\x01", 4096},
	{18, zeros + "\x02\x01x", 4096},
	{18, zeros + "\x03\x00\xfd\xfd\x00" + strings.Repeat("r", 253), 4096},
}

// Promise 9.3: a text that is cut, by one byte up to all of it, is told with the place behind its count; a count that is cut, with its own.
func TestDecodeTextsCut(t *testing.T) {
	for _, x := range texts {
		for _, n := range []int{1, 2, 63, 64, 252, 253, 254, 4095, 4096} {
			if n > x.most {
				continue
			}
			c := count(uint64(n))
			for end := range len(c) {
				faults(t, x.kind, x.ahead+c[:end], len(x.ahead), api.ErrCut)
			}
			for _, has := range []int{0, 1, n / 2, n - 1} {
				if has < n {
					faults(t, x.kind, x.ahead+c+strings.Repeat("\xff", has), len(x.ahead)+len(c), api.ErrCut)
				}
			}
		}
		for _, n := range []int{x.most + 1, x.most + 2, 65535} {
			faults(t, x.kind, x.ahead+count(uint64(n)), len(x.ahead), api.ErrMore)
		}
	}
}

// Promise 9.3: every beginning of a transaction's and of a block's payload is one, too: it is all one text, without a count.
func TestDecodeWhole(t *testing.T) {
	s := "\xfd\xff\xff\x05ab" + strings.Repeat("\x00\xff", 40)
	for _, kind := range []int{13, 14} {
		for n := range len(s) + 1 {
			if m, at, e := decodes(t, kind, s[:n]); m.Raw != s[:n] || at != 0 || e != api.OK {
				t.Fatalf("%d bytes of a %s: %q %d %d", n, commands[kind], m.Raw, at, e)
			}
		}
	}
}

// Promise 9.3: payloads of good messages of which some bytes are others, are gone or are there twice.
func TestDecodeLots(t *testing.T) {
	lots := rand.New(rand.NewSource(97))
	for range 60000 {
		kind := 1 + lots.Intn(18)
		b := []byte(payload(lotMsg(lots, kind, lots.Intn(5))))
		for range lots.Intn(4) {
			if len(b) == 0 {
				break
			}
			at := lots.Intn(len(b))
			switch lots.Intn(5) {
			case 0:
				b[at] = byte(lots.Intn(256))
			case 1:
				b[at] = byte(250 + lots.Intn(6))
			case 2:
				b = slices.Delete(b, at, at+1)
			case 3:
				b = slices.Insert(b, at, byte(lots.Intn(4)))
			case 4:
				b[at]++
			}
		}
		if lots.Intn(20) == 0 {
			kind = 1 + lots.Intn(18)
		}
		s := string(b)
		if m, _, e := decodes(t, kind, s); e == api.OK {
			if again, e := encodes(t, m); again != s || e != api.OK {
				t.Fatalf("Encode of Decode(%d, %q): %q %d", kind, s, again, e)
			}
		}
	}
}

// Promise 9.3: bytes by lots, mostly small ones, of each kind.
func TestDecodeAnything(t *testing.T) {
	lots := rand.New(rand.NewSource(98))
	for range 60000 {
		b := make([]byte, lots.Intn(200))
		most := 1 + lots.Intn(256)
		for i := range b {
			b[i] = byte(lots.Intn(most))
		}
		decodes(t, 1+lots.Intn(18), string(b))
	}
}

// Rules R4 and R5: two answers share no memory, spare room too, and the same call answers the same.
func TestDecodeMemory(t *testing.T) {
	lots := rand.New(rand.NewSource(99))
	for kind := 1; kind <= 18; kind++ {
		m := lotMsg(lots, kind, 5)
		s := payload(m)
		first, _, _ := Decode(kind, s)
		second, _, _ := Decode(kind, s)
		fields(&first, func(_ string, v reflect.Value) {
			if v.Kind() == reflect.Slice {
				all := v.Slice(0, v.Cap())
				for i := range all.Len() {
					all.Index(i).SetZero()
				}
			}
		})
		if third, _, _ := Decode(kind, s); !wantSame(second, m) || !wantSame(third, m) {
			t.Errorf("two answers of a %s share memory", commands[kind])
		}
	}
}
