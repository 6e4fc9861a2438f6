package block

import (
	"math"
	"math/rand"
	"strings"
	"testing"

	"bedrock/api"
)

// badForms is counts that are not in their shortest form.
var badForms = []string{
	"\xfd\x00\x00", "\xfd\x01\x00", "\xfd\xfc\x00",
	"\xfe\x00\x00\x00\x00", "\xfe\x01\x00\x00\x00", "\xfe\x01\x20\x00\x00", "\xfe\xff\xff\x00\x00",
	"\xff\x00\x00\x00\x00\x00\x00\x00\x00", "\xff\x01\x20\x00\x00\x00\x00\x00\x00", "\xff\xff\xff\xff\xff\x00\x00\x00\x00",
}

// greats is numbers above MaxBlock.
var greats = []uint64{8193, 8194, 16384, 65535, 65536, 1 << 31, 1<<32 - 1, 1 << 32, 1<<32 + 1, 1<<63 - 1, 1 << 63, math.MaxUint64 - 1, math.MaxUint64}

// Promises 11.2 and 11.5: bytes of all shapes are taken.
func TestDecodeShapes(t *testing.T) {
	for i, b := range shapes() {
		got, at, e := decodes(t, wantBytes(b))
		if e != api.OK || at != 0 || !Same(got, b) || !sameBlock(got, b) {
			t.Errorf("shape %d: %d %d", i, at, e)
		}
	}
}

// starts is the places at which a block's parts begin, in order: its header, its count, its transactions; and the place behind.
func starts(b api.Block) []int {
	at := 80 + len(count(uint64(len(b.Txs))))
	list := []int{0, 80}
	for _, t := range b.Txs {
		list = append(list, at)
		at += len(wantTx(t))
	}
	return append(list, at)
}

// Promise 11.2 and the chapter's example: of every beginning of a block's bytes the place at which the part begins that is cut; ErrMore and the place behind with a byte more.
func TestDecodeCutAndMore(t *testing.T) {
	refused(t, "79 bytes", zeros(79), 0, api.ErrCut)
	refused(t, "79 other bytes", strings.Repeat("\xff", 79), 0, api.ErrCut)
	for _, b := range shapes() {
		s, part := wantBytes(b), 0
		list := starts(b)
		for n := range len(s) {
			for list[part+1] <= n {
				part++
			}
			refused(t, "a beginning", s[:n], list[part], api.ErrCut)
			if n > 300 && n < len(s)-300 && n%7 != 0 { // the midst of long shapes is alike
				continue
			}
			for _, more := range []string{"\x00", "\xff"} {
				decodes(t, s[:n]+more) // what comes of another byte there the model tells
			}
		}
		for _, more := range []string{"\x00", "\x01", "\xff", zeros(10)} {
			if len(s)+len(more) <= 8192 {
				refused(t, "something more", s+more, len(s), api.ErrMore)
			}
		}
	}
}

// Promise 11.2: MaxBlock bytes are gone through, more are not, whatever they are.
func TestDecodeLong(t *testing.T) {
	b := sizedBlock(8192)
	if got, at, e := decodes(t, wantBytes(b)); e != api.OK || at != 0 || !sameBlock(got, b) {
		t.Errorf("8192 bytes: %d %d", at, e)
	}
	refused(t, "a block of 8193 bytes", wantBytes(sizedBlock(8193)), 0, api.ErrLong)
	refused(t, "a block of 9000 bytes", wantBytes(sizedBlock(9000)), 0, api.ErrLong)
	refused(t, "a block of 8192 bytes and one more", wantBytes(b)+"\x00", 0, api.ErrLong)
	refused(t, "a block of 8191 bytes and one more", wantBytes(sizedBlock(8191))+"\x00", 8191, api.ErrMore)
	for _, s := range []string{"\x00", "\xff"} {
		refused(t, "8193 bytes", strings.Repeat(s, 8193), 0, api.ErrLong)
		refused(t, "100000 bytes", strings.Repeat(s, 100000), 0, api.ErrLong)
	}
	refused(t, "8192 zeros", zeros(8192), 81, api.ErrMore)
	refused(t, "8192 bytes 255", strings.Repeat("\xff", 8192), 80, api.ErrMore)
}

// Promise 11.2: counts that are cut, not in their shortest form, above MaxBlock, also great ones, and just at it.
func TestDecodeCounts(t *testing.T) {
	h := wantHead(head())
	for _, behind := range []string{"", "\x00", zeros(10), zeros(5000), strings.Repeat("\xff", 5000)} {
		for _, form := range badForms {
			refused(t, "a long form", h+form+behind, 80, api.ErrForm)
		}
		for _, n := range greats {
			refused(t, "a great count", h+count(n)+behind, 80, api.ErrMore)
		}
	}
	for _, form := range append([]string{count(8192), count(8193), count(1 << 40)}, badForms...) {
		for n := range len(form) {
			refused(t, "a count that is cut", h+form[:n], 80, api.ErrCut)
		}
	}
	for _, n := range []uint64{1, 2, 252, 253, 8191, 8192} {
		c := count(n)
		refused(t, "nothing behind a count", h+c, 80+len(c), api.ErrCut)
		refused(t, "nine bytes behind a count", h+c+zeros(9), 80+len(c), api.ErrCut)
		if n > 1 {
			refused(t, "ten bytes behind a count", h+c+zeros(10), 90+len(c), api.ErrCut)
		}
	}
	refused(t, "800 of 8192 transactions", h+count(8192)+zeros(8000), 80+3+8000, api.ErrCut)
	refused(t, "none, and one", h+"\x00"+zeros(10), 81, api.ErrMore)
	refused(t, "one, and another one", h+"\x01"+zeros(20), 91, api.ErrMore)
}

// wrongTxs is bytes that are no transaction, and why.
var wrongTxs = []struct {
	name, raw string
	want      api.Errno
}{
	{"a cut version", "ver", api.ErrCut},
	{"a form of a count", "vers\xfd\x01\x00" + zeros(100), api.ErrForm},
	{"too many inputs", "vers\xfd\x01\x10" + zeros(100), api.ErrMore},
	{"too many outputs", "vers\x00\xff\x01\x10\x00\x00\x00\x00\x00\x80" + zeros(100), api.ErrMore},
	{"a long key", "vers\x01" + zeros(36) + "\xfd\x09\x02" + zeros(600), api.ErrScript},
	{"a long lock", "vers\x00\x01" + zeros(8) + "\xfe\x00\x00\x01\x00" + zeros(600), api.ErrScript},
	{"a cut time", "vers\x00\x00tim", api.ErrCut},
	{"too many bytes", wantTx(sized(4097)), api.ErrSize},
}

// Promise 11.2: of a transaction that is none the place at which it begins, and tx's error, behind none and behind several that are some.
func TestDecodeTxs(t *testing.T) {
	h := wantHead(head())
	first, second := wantTx(plain(1, 2, 2)), wantTx(sized(900))
	for _, x := range wrongTxs {
		for _, ahead := range [][]string{nil, {first}, {first, second}, {second, first, first, zeros(10)}} {
			good := strings.Join(ahead, "")
			for _, more := range []uint64{1, 2, 200} {
				c := count(uint64(len(ahead)) + more)
				refused(t, x.name, h+c+good+x.raw, 80+len(c)+len(good), x.want)
			}
		}
	}
}

// Promise 11.2: of several things that are wrong the first one that stands there is told; too many bytes ahead of all.
func TestDecodeOrder(t *testing.T) {
	h := wantHead(head())
	form, script, inputs := "\xfd\x01\x00", wrongTxs[4].raw, wrongTxs[2].raw
	refused(t, "a form, then no transaction", h+form+script, 80, api.ErrForm)
	refused(t, "a great count, then no transaction", h+count(9000)+script, 80, api.ErrMore)
	refused(t, "a long key, then too many inputs", h+"\x02"+script+inputs, 81, api.ErrScript)
	refused(t, "too many inputs, then a long key", h+"\x02"+inputs+script, 81, api.ErrMore)
	refused(t, "one, a long key, then too many inputs", h+"\x03"+zeros(10)+script+inputs, 91, api.ErrScript)
	refused(t, "none, and what is no transaction", h+"\x00"+script, 81, api.ErrMore)
	refused(t, "one, and what is no transaction", h+"\x01"+zeros(10)+script, 91, api.ErrMore)
	refused(t, "one cut, many said", h+"\xfc"+"ver", 81, api.ErrCut)
	refused(t, "too many bytes, a form, no transaction", h+form+script+zeros(8192), 0, api.ErrLong)
	refused(t, "too many bytes, a great count", h+count(9000)+zeros(8192), 0, api.ErrLong)
	refused(t, "too many bytes, something left", h+"\x00"+zeros(8192), 0, api.ErrLong)
}

// Promise 11.2: blocks' bytes with a few bytes changed, left out or put in are as the model says, and what is taken has just these bytes.
func TestDecodeLots(t *testing.T) {
	lots := rand.New(rand.NewSource(116))
	seen := map[api.Errno]int{}
	for range 30000 {
		s := []byte(wantBytes(lotBlock(lots, 5, 6)))
		for range 1 + lots.Intn(3) {
			at := 76 + lots.Intn(len(s)-76)
			if lots.Intn(8) == 0 {
				at = min(80, len(s)-1) // the count
			}
			odd := []byte{0, 1, 2, 3, 252, 253, 254, 255, byte(lots.Intn(256))}[lots.Intn(9)]
			switch lots.Intn(4) {
			case 0:
				s = append(s[:at], append([]byte{odd}, s[at:]...)...)
			case 1:
				s = s[:max(77, at)]
			default:
				s[at] = odd
			}
		}
		b, at, e := decodes(t, string(s))
		seen[e]++
		if e == api.OK {
			if back, _ := Encode(b); back != string(s) || at != 0 {
				t.Fatalf("Encode of Decode: other bytes")
			}
		}
	}
	for _, e := range []api.Errno{api.OK, api.ErrCut, api.ErrMore, api.ErrForm, api.ErrScript} {
		if seen[e] < 20 {
			t.Errorf("error %d came %d times", e, seen[e])
		}
	}
}

// Rule R4: what is handed out is new memory, and no two lists of it share any, their spare room neither.
func TestDecodeMemory(t *testing.T) {
	b := api.Block{Header: head(), Txs: []api.Tx{plain(1, 3, 3), plain(2, 3, 3), plain(3, 3, 3)}}
	s := wantBytes(b)
	first, _, _ := Decode(s)
	second, _, _ := Decode(s)
	spoil(first)
	if !sameBlock(second, b) {
		t.Error("two answers share memory")
	}
	second.Txs[0].Ins = append(second.Txs[0].Ins, api.In{}, api.In{}, api.In{})
	second.Txs[0].Outs = append(second.Txs[0].Outs, api.Out{}, api.Out{}, api.Out{})
	second.Txs[0].Ins, second.Txs[0].Outs = second.Txs[0].Ins[:3], second.Txs[0].Outs[:3]
	if !sameBlock(second, b) {
		t.Error("two lists share memory")
	}
}

// spoil writes over all lists of a block, their spare room too.
func spoil(b api.Block) {
	for _, t := range b.Txs {
		clear(t.Ins[:cap(t.Ins)])
		clear(t.Outs[:cap(t.Outs)])
	}
	clear(b.Txs[:cap(b.Txs)])
}
