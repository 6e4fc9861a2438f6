package tx

import (
	"math"
	"math/rand"
	"slices"
	"strings"
	"testing"

	"bedrock/api"
)

// badForms is counts that are not in their shortest form.
var badForms = []string{
	"\xfd\x00\x00", "\xfd\x01\x00", "\xfd\xfc\x00",
	"\xfe\x00\x00\x00\x00", "\xfe\x05\x00\x00\x00", "\xfe\x09\x02\x00\x00", "\xfe\x01\x10\x00\x00", "\xfe\xff\xff\x00\x00",
	"\xff\x00\x00\x00\x00\x00\x00\x00\x00", "\xff\x09\x02\x00\x00\x00\x00\x00\x00", "\xff\x01\x10\x00\x00\x00\x00\x00\x00", "\xff\xff\xff\xff\xff\x00\x00\x00\x00",
}

// greats is numbers that are above every most.
var greats = []uint64{4097, 4098, 65535, 65536, 1 << 31, 1<<32 - 1, 1 << 32, 1<<32 + 1, 1<<63 - 1, 1 << 63, math.MaxUint64 - 1, math.MaxUint64}

// zeros is so many bytes 0.
func zeros(n int) string { return strings.Repeat("\x00", n) }

// shapes is transactions of unlike shapes: none, one and many inputs and outputs, keys and locks of all forms of their counts.
func shapes() []api.Tx {
	long := plain(2, 2)
	long.Ins[1].Key, long.Outs[0].Lock = strings.Repeat("k", 253), strings.Repeat("l", 520)
	bare := plain(2, 2)
	bare.Ins[0].Key, bare.Outs[1].Lock = "", ""
	return []api.Tx{{}, plain(1, 0), plain(0, 1), plain(1, 1), plain(3, 2), plain(90, 1), plain(0, 260), long, bare, sized(4095), sized(4096)}
}

// Promises 10.1 and 10.5: a transaction is taken where it stands, whatever is ahead of it and behind it.
func TestTakePlaces(t *testing.T) {
	for i, x := range shapes() {
		s := wantBytes(x)
		for _, ahead := range []string{"", "a", "\xff\xff\xff", s, strings.Repeat("a", 5000)} {
			for _, behind := range []string{"", "b", "\xff", s, strings.Repeat("b", 5000)} {
				got, at, e := takes(t, ahead+s+behind, len(ahead))
				if e != api.OK || at != len(ahead)+len(s) || !wantSame(got, x) {
					t.Fatalf("shape %d behind %d bytes: %d %d", i, len(ahead), at, e)
				}
			}
		}
	}
}

// Promise 10.1: places below 0 and above the length, ahead of all else; at the length nothing stands.
func TestTakeArg(t *testing.T) {
	for _, s := range []string{"", "x", zeros(10), zeros(9), "\xff\xff\xff\xff\xff", strings.Repeat("\xff", 5000)} {
		for _, at := range []int{-1, -2, math.MinInt, len(s) + 1, len(s) + 2, math.MaxInt} {
			if x, behind, e := takes(t, s, at); e != api.ErrArg || behind != 0 || !wantSame(x, api.Tx{}) {
				t.Errorf("Take of %d bytes at %d: %d %d", len(s), at, behind, e)
			}
		}
		if x, behind, e := takes(t, s, len(s)); e != api.ErrCut || behind != 0 || !wantSame(x, api.Tx{}) {
			t.Errorf("Take of %d bytes at their end: %d %d", len(s), behind, e)
		}
	}
}

// Promise 10.1: every beginning of a transaction's bytes is cut; with a byte more Take stops ahead of it and Decode tells ErrMore.
func TestDecodeCutAndMore(t *testing.T) {
	for i, x := range shapes() {
		s := wantBytes(x)
		for n := range len(s) {
			if _, e := decodes(t, s[:n]); e != api.ErrCut {
				t.Fatalf("%d of %d bytes of shape %d: %d", n, len(s), i, e)
			}
			if _, behind, e := takes(t, "ahead"+s[:n], 5); e != api.ErrCut || behind != 0 {
				t.Fatalf("%d of %d bytes of shape %d behind others: %d", n, len(s), i, e)
			}
		}
		for b := range 256 {
			more := s + string([]byte{byte(b)})
			if got, e := decodes(t, more); e != api.ErrMore || !wantSame(got, api.Tx{}) {
				t.Fatalf("shape %d and a byte: %d", i, e)
			}
			if got, behind, e := takes(t, more, 0); e != api.OK || behind != len(s) || !wantSame(got, x) {
				t.Fatalf("Take of shape %d and a byte: %d %d", i, behind, e)
			}
		}
		if _, e := decodes(t, s+s); e != api.ErrMore {
			t.Errorf("shape %d twice: %d", i, e)
		}
	}
}

// counts is where each count of a transaction stands, what is ahead of it, and its most with the error above it.
var counts = []struct {
	name, ahead string
	most        int
	above       api.Errno
}{
	{"inputs", "vers", 4096, api.ErrMore},
	{"the first key", "vers\x02" + zeros(36), 520, api.ErrScript},
	{"the second key", "vers\x02" + zeros(36) + "\x01k" + zeros(4) + zeros(36), 520, api.ErrScript},
	{"outputs", "vers\x00", 4096, api.ErrMore},
	{"outputs behind inputs", "vers\x01" + zeros(36) + "\x00" + zeros(4), 4096, api.ErrMore},
	{"the first lock", "vers\x00\x02" + zeros(8), 520, api.ErrScript},
	{"the second lock", "vers\x00\x02" + zeros(8) + "\x01l" + zeros(8), 520, api.ErrScript},
}

// Promise 10.1: counts that are cut, not in their shortest form, above their most, also great ones, and just at it.
func TestDecodeCounts(t *testing.T) {
	for _, c := range counts {
		for _, behind := range []string{"", zeros(3), strings.Repeat("\xff", 5000)} {
			for _, form := range badForms {
				refused(t, c.ahead+form+behind, api.ErrForm)
			}
			for _, n := range append([]uint64{uint64(c.most) + 1, uint64(c.most) + 2}, greats...) {
				refused(t, c.ahead+bigCount(n)+behind, c.above)
			}
		}
		for _, form := range append([]string{bigCount(4097), bigCount(1 << 40)}, badForms...) {
			for n := range len(form) {
				refused(t, c.ahead+form[:n], api.ErrCut)
			}
		}
		for _, n := range []int{1, 2, 252, 253, 519, 520, c.most} {
			refused(t, c.ahead+count(n), api.ErrCut)
		}
	}
}

// Promise 10.1: keys and locks of MaxScript bytes are taken, and each beginning of these is cut.
func TestDecodeScript(t *testing.T) {
	for _, n := range []int{0, 1, 252, 253, 519, 520} {
		text := strings.Repeat("\xff", n)
		key := "vers\x01" + zeros(36) + count(n) + text + "sequ\x00time"
		if x, e := decodes(t, key); e != api.OK || x.Ins[0].Key != text || x.Time != 0x656d6974 {
			t.Errorf("a key of %d bytes: %d", n, e)
		}
		lock := "vers\x00\x01" + zeros(8) + count(n) + text + "time"
		if x, e := decodes(t, lock); e != api.OK || x.Outs[0].Lock != text || x.Time != 0x656d6974 {
			t.Errorf("a lock of %d bytes: %d", n, e)
		}
	}
}

// Promise 10.1: of several things that are wrong the first that stands there is told.
func TestDecodeOrder(t *testing.T) {
	long, form, more := count(521), "\xfd\x01\x00", count(4097)
	refused(t, "ver", api.ErrCut)
	refused(t, "vers"+more+form, api.ErrMore)
	refused(t, "vers"+form+more, api.ErrForm)
	refused(t, "vers\x01"+zeros(36)+long+"sequ"+more, api.ErrScript)
	refused(t, "vers\x01"+zeros(36)+form+more, api.ErrForm)
	refused(t, "vers\x01"+zeros(36)+"\x00sequ"+more, api.ErrMore)
	refused(t, "vers\x01"+zeros(36)+"\x00seq", api.ErrCut)
	refused(t, "vers\x01"+zeros(35), api.ErrCut)
	refused(t, "vers\x02"+zeros(36)+"\x05keykeysequ"+long, api.ErrCut)
	refused(t, "vers\x02"+zeros(36)+"\x00sequ"+zeros(36)+form+long, api.ErrForm)
	refused(t, "vers\x00"+more+zeros(8)+long, api.ErrMore)
	refused(t, "vers\x00"+form+zeros(8)+long, api.ErrForm)
	refused(t, "vers\x00\x02"+zeros(8)+long+zeros(8)+form, api.ErrScript)
	refused(t, "vers\x00\x02"+zeros(8)+form+zeros(8)+long, api.ErrForm)
	refused(t, "vers\x00\x01"+zeros(8)+"\x00tim", api.ErrCut)
}

// elements is whole inputs or outputs that have n bytes together, and how many they are; head and foot is what stands around a key or a lock.
func elements(n int, head, foot string) (int, string) {
	many, s := 1, ""
	for bare := len(head) + 1 + len(foot); ; many++ {
		script := 100
		if n <= 200 {
			script = n - bare
		}
		s += head + count(script) + strings.Repeat("s", script) + foot
		n -= bare + script
		if n == 0 {
			return many, s
		}
	}
}

// insTo is the front of a transaction, of n bytes, that ends behind an input, and says that there are so many more of them.
func insTo(n, more int) string {
	many, s := elements(n-5, zeros(36), "sequ")
	return "vers" + count(many+more) + s
}

// outsTo is the same of outputs, without inputs.
func outsTo(n, more int) string {
	many, s := elements(n-6, zeros(8), "")
	return "vers\x00" + count(many+more) + s
}

// sizedPart is a part whose length the bytes ahead of it say: a front that ends where it begins, and its length.
type sizedPart struct {
	front func(at int) string
	long  int
}

// sizedParts is each of these but the version, which always fits.
func sizedParts() []sizedPart {
	parts := []sizedPart{
		{func(at int) string { return insTo(at, 1) }, 32},                           // id
		{func(at int) string { return insTo(at-32, 1) + zeros(32) }, 4},             // place
		{func(at int) string { return insTo(at-37, 1) + zeros(36) + "\x00" }, 4},    // sequence
		{func(at int) string { return insTo(at-40, 1) + zeros(36) + "\x03key" }, 4}, // sequence
		{func(at int) string { return outsTo(at, 1) }, 8},                           // value
		{func(at int) string { return outsTo(at, 0) }, 4},                           // time
		{func(at int) string { return insTo(at-1, 0) + "\x00" }, 4},                 // time
	}
	for _, n := range []int{1, 2, 5, 252, 253, 520} {
		c := count(n)
		parts = append(parts,
			sizedPart{func(at int) string { return insTo(at-len(c)-36, 1) + zeros(36) + c }, n},
			sizedPart{func(at int) string { return outsTo(at-len(c)-8, 1) + zeros(8) + c }, n})
	}
	return parts
}

// Promise 10.1: a part that just fits into MaxTx bytes is cut where its bytes are not there; one that goes over the bound, by one byte or by all of them, is ErrSize, whatever is there.
func TestDecodeSizeParts(t *testing.T) {
	for _, part := range sizedParts() {
		n := part.long
		for _, over := range []int{0, 1, 2, 3, n / 2, n - 1, n} {
			if over > n {
				continue
			}
			front := part.front(4096 - n + over)
			if len(front) != 4096-n+over {
				t.Fatalf("a front of %d bytes", len(front))
			}
			for _, have := range []int{0, 1, n / 2, n - 1, n, n + 1, 9000} {
				want := api.ErrSize
				if over == 0 && have < n {
					want = api.ErrCut
				}
				if over > 0 || have < n {
					refused(t, front+strings.Repeat("\xff", have), want)
				}
			}
		}
	}
}

// Promise 10.1: a part that fits, and takes all bytes that are left: only the time may do so, each other one leaves no room for the next part.
func TestDecodeSizeFull(t *testing.T) {
	for _, part := range sizedParts() {
		s := part.front(4096-part.long) + strings.Repeat("\x00", part.long)
		x, e := decodes(t, s)
		switch e {
		case api.OK:
			if Size(x) != 4096 || part.long != 4 {
				t.Errorf("a part of %d bytes is the last one", part.long)
			}
			refused(t, part.front(4096-part.long+1)+zeros(part.long), api.ErrSize)
			if _, e := decodes(t, s+"x"); e != api.ErrMore {
				t.Errorf("4096 bytes and one: %d", e)
			}
		case api.ErrSize:
			refused(t, s+zeros(100), api.ErrSize)
		default:
			t.Errorf("4096 bytes: %d", e)
		}
	}
}

// Promise 10.1: a count that does not fit into MaxTx bytes: one that is above its most is told as that, wherever it stands; then ErrSize, ahead of ErrCut and ErrForm.
func TestDecodeSizeCounts(t *testing.T) {
	for _, c := range []struct {
		front func(at int) string
		most  int
		above api.Errno
	}{
		{func(at int) string { return insTo(at-36, 1) + zeros(36) }, 520, api.ErrScript},
		{func(at int) string { return outsTo(at-8, 1) + zeros(8) }, 520, api.ErrScript},
		{func(at int) string { return insTo(at, 0) }, 4096, api.ErrMore},
	} {
		for left := range 11 { // bytes that the bound leaves for the count
			front := c.front(4096 - left)
			for _, n := range []int{c.most + 1, c.most + 2, 65535, 65536, 1 << 32, math.MaxInt} {
				form := count(n)
				refused(t, front+form, c.above)
				refused(t, front+form+strings.Repeat("\xff", 5000), c.above)
				for have := range len(form) {
					refused(t, front+form[:have], cutAtBound(have, len(form), left))
				}
			}
			for _, form := range badForms {
				want := api.ErrForm
				if left < len(form) {
					want = api.ErrSize
				}
				refused(t, front+form, want)
				refused(t, front+form+strings.Repeat("\xff", 5000), want)
				for have := range len(form) {
					refused(t, front+form[:have], cutAtBound(have, len(form), left))
				}
			}
			for _, n := range []int{253, 519, 520} { // these may be; but what they count has no room
				refused(t, front+count(n), api.ErrSize)
			}
		}
	}
}

// cutAtBound is what a count of long bytes is refused for, of which so many are there, and so many fit: without its first byte one more may be enough.
func cutAtBound(have, long, left int) api.Errno {
	if have == 0 {
		long = 1
	}
	if left < long {
		return api.ErrSize
	}
	return api.ErrCut
}

// Promise 10.1: a count of inputs or outputs that could never fit is no fault by itself: the first element that does not stand there is.
func TestDecodeManyClaimed(t *testing.T) {
	for _, n := range []int{100, 253, 4095, 4096} {
		refused(t, "vers"+count(n), api.ErrCut)
		refused(t, "vers"+count(n)+zeros(31), api.ErrCut)
		refused(t, "vers"+count(n)+zeros(4200), api.ErrSize)
		refused(t, "vers"+count(n)+zeros(41*50), api.ErrCut)
	}
	refused(t, "vers\x00"+count(4096), api.ErrCut)
	refused(t, "vers\x00"+count(4096)+zeros(4096), api.ErrSize)
	refused(t, "vers\x00"+count(4096)+zeros(8)+"\x00"+zeros(8)+count(521), api.ErrScript)
}

// Promise 10.1: MaxTx bytes count from the place at which the transaction begins.
func TestTakeSizeInMidst(t *testing.T) {
	good, bad := wantBytes(sized(4096)), wantBytes(sized(4097))
	for _, ahead := range []int{1, 4095, 4096, 4097, 20000} {
		all := strings.Repeat("\xff", ahead)
		if x, behind, e := takes(t, all+good+all, ahead); e != api.OK || behind != ahead+4096 || Size(x) != 4096 {
			t.Errorf("4096 bytes behind %d: %d %d", ahead, behind, e)
		}
		if _, behind, e := takes(t, all+bad+all, ahead); e != api.ErrSize || behind != 0 {
			t.Errorf("4097 bytes behind %d: %d %d", ahead, behind, e)
		}
	}
	if _, e := decodes(t, bad); e != api.ErrSize {
		t.Errorf("Decode of 4097 bytes: %d", e)
	}
}

// Promises 10.1 and 10.5: bytes of good transactions of which some are others, are gone or are there twice; what is still one encodes to the same bytes.
func TestDecodeLots(t *testing.T) {
	lots := rand.New(rand.NewSource(102))
	seen := map[api.Errno]int{}
	for range 40000 {
		b := []byte(wantBytes(lotTx(lots, lots.Intn(5), lots.Intn(5), []int{2, 4, 300, 530}[lots.Intn(4)])))
		if lots.Intn(10) == 0 {
			b = []byte(wantBytes(sized(4080 + lots.Intn(30))))
		}
		for range lots.Intn(4) {
			at := lots.Intn(len(b))
			switch lots.Intn(5) {
			case 0:
				b[at] = byte(lots.Intn(256))
			case 1:
				b[at] = byte(250 + lots.Intn(6))
			case 2:
				b = slices.Delete(b, at, at+1)
			case 3:
				b = slices.Insert(b, at, byte(lots.Intn(4)))
			case 4:
				b[at]++
			}
		}
		s := string(b)
		x, e := decodes(t, s)
		takes(t, s, lots.Intn(len(s)+3)-1)
		seen[e]++
		if e == api.OK {
			if again, e := encodes(t, x); again != s || e != api.OK {
				t.Fatalf("Encode of Decode: %d", e)
			}
		}
	}
	for _, e := range []api.Errno{api.OK, api.ErrCut, api.ErrMore, api.ErrForm, api.ErrScript, api.ErrSize} {
		if seen[e] == 0 {
			t.Errorf("error %d was never met", e)
		}
	}
}

// Promise 10.1: bytes by lots, mostly small ones.
func TestDecodeAnything(t *testing.T) {
	lots := rand.New(rand.NewSource(103))
	for range 40000 {
		b := make([]byte, lots.Intn(200))
		most := 1 + lots.Intn(256)
		for i := range b {
			b[i] = byte(lots.Intn(most))
		}
		decodes(t, string(b))
		takes(t, string(b), lots.Intn(len(b)+3)-1)
	}
}

// Promise 10.5: other bytes have another transaction: each byte that is turned gives another one, or none.
func TestDecodeUnlike(t *testing.T) {
	for _, x := range shapes()[:9] {
		s := wantBytes(x)
		for i := range min(len(s), 700) {
			for _, turn := range []byte{1, 128} {
				b := []byte(s)
				b[i] ^= turn
				if other, e := decodes(t, string(b)); e == api.OK && Same(other, x) {
					t.Fatalf("another byte at %d is the same transaction", i)
				}
			}
		}
	}
}

// Rules R4 and R5: two answers share no memory, spare room too, and the same call answers the same.
func TestTakeMemory(t *testing.T) {
	x := plain(5, 5)
	s := wantBytes(x)
	first, _, _ := Take(s, 0)
	second, _, _ := Take(s, 0)
	clear(first.Ins[:cap(first.Ins)])
	clear(first.Outs[:cap(first.Outs)])
	if third, _, _ := Take(s, 0); !wantSame(second, x) || !wantSame(third, x) {
		t.Error("two answers share memory")
	}
}
