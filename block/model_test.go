package block

import (
	"crypto/sha256"
	"encoding/binary"
	"math/big"
	"math/rand"
	"reflect"
	"slices"
	"strings"
	"testing"

	"bedrock/api"
	"bedrock/tx"
)

// count is a count's bytes, by the library's numbers in bytes.
func count(n uint64) string {
	switch {
	case n < 253:
		return string([]byte{byte(n)})
	case n < 1<<16:
		return string(binary.LittleEndian.AppendUint16([]byte{253}, uint16(n)))
	case n < 1<<32:
		return string(binary.LittleEndian.AppendUint32([]byte{254}, uint32(n)))
	}
	return string(binary.LittleEndian.AppendUint64([]byte{255}, n))
}

func four(n uint32) string { return string(binary.LittleEndian.AppendUint32(nil, n)) }

func text(s string) string { return count(uint64(len(s))) + s }

// wantHead is a header's bytes.
func wantHead(h api.Header) string {
	return four(h.Version) + string(h.Prev[:]) + string(h.Root[:]) + four(h.Time) + four(h.Bits) + four(h.Nonce)
}

// wantTx is a transaction's bytes, whatever the limits.
func wantTx(t api.Tx) string {
	var s strings.Builder
	s.WriteString(four(t.Version) + count(uint64(len(t.Ins))))
	for _, in := range t.Ins {
		s.WriteString(string(in.Point.Tx[:]) + four(in.Point.Index) + text(in.Key) + four(in.Sequence))
	}
	s.WriteString(count(uint64(len(t.Outs))))
	for _, out := range t.Outs {
		s.WriteString(string(binary.LittleEndian.AppendUint64(nil, out.Value)) + text(out.Lock))
	}
	s.WriteString(four(t.Time))
	return s.String()
}

// wantBytes is a block's bytes, whatever the limits.
func wantBytes(b api.Block) string {
	var s strings.Builder
	s.WriteString(wantHead(b.Header) + count(uint64(len(b.Txs))))
	for _, t := range b.Txs {
		s.WriteString(wantTx(t))
	}
	return s.String()
}

// wantTold is the error of a transaction, by the limits of chapter 10.
func wantTold(t api.Tx) api.Errno {
	if slices.ContainsFunc(t.Ins, func(in api.In) bool { return len(in.Key) > 520 }) ||
		slices.ContainsFunc(t.Outs, func(out api.Out) bool { return len(out.Lock) > 520 }) {
		return api.ErrScript
	}
	if len(wantTx(t)) > 4096 {
		return api.ErrSize
	}
	return api.OK
}

// wantEncode is Encode by the chapter's words.
func wantEncode(b api.Block) (string, api.Errno) {
	for _, t := range b.Txs {
		if e := wantTold(t); e != api.OK {
			return "", e
		}
	}
	if s := wantBytes(b); len(s) <= 8192 {
		return s, api.OK
	}
	return "", api.ErrLong
}

// wantCount is the count at the front of a text, and how many bytes it has.
func wantCount(s string) (uint64, int, api.Errno) {
	if s == "" {
		return 0, 0, api.ErrCut
	}
	long := map[byte]int{253: 3, 254: 5, 255: 9}[s[0]]
	if long == 0 {
		return uint64(s[0]), 1, api.OK
	}
	if len(s) < long {
		return 0, 0, api.ErrCut
	}
	n := binary.LittleEndian.Uint64([]byte(s[1:long] + "\x00\x00\x00\x00\x00\x00\x00\x00")[:8])
	if count(n) != s[:long] {
		return 0, 0, api.ErrForm
	}
	return n, long, api.OK
}

// wantDecode is Decode by the chapter's words.
func wantDecode(s string) (api.Block, int, api.Errno) {
	var b api.Block
	if len(s) > 8192 {
		return b, 0, api.ErrLong
	}
	if len(s) < 80 {
		return b, 0, api.ErrCut
	}
	n, long, e := wantCount(s[80:])
	if n > 8192 {
		e = api.ErrMore
	}
	if e != api.OK {
		return b, 80, e
	}
	at := 80 + long
	for range n {
		t, behind, e := tx.Take(s, at)
		if e != api.OK {
			return api.Block{}, at, e
		}
		b.Txs, at = append(b.Txs, t), behind
	}
	if at != len(s) {
		return api.Block{}, at, api.ErrMore
	}
	b.Header = wantTakeHead(s)
	return b, 0, api.OK
}

// wantTakeHead is the header of the first 80 bytes.
func wantTakeHead(s string) api.Header {
	number := func(at int) uint32 { return binary.LittleEndian.Uint32([]byte(s[at : at+4])) }
	return api.Header{
		Version: number(0),
		Prev:    api.Hash([]byte(s[4:36])),
		Root:    api.Hash([]byte(s[36:68])),
		Time:    number(68),
		Bits:    number(72),
		Nonce:   number(76),
	}
}

// digest is SHA-256 of SHA-256, by the library.
func digest(s string) api.Hash {
	once := sha256.Sum256([]byte(s))
	return sha256.Sum256(once[:])
}

// wantRoot is the root of ids, and whether they are mutated, by the words of chapter 6.
func wantRoot(ids ...api.Hash) (api.Hash, bool) {
	if len(ids) == 0 {
		return api.Hash{}, false
	}
	if len(ids) == 1 {
		return ids[0], false
	}
	var next []api.Hash
	mutated := false
	for i := 0; i < len(ids); i += 2 {
		j := min(i+1, len(ids)-1)
		mutated = mutated || i != j && ids[i] == ids[j]
		next = append(next, digest(string(ids[i][:])+string(ids[j][:])))
	}
	root, above := wantRoot(next...)
	return root, mutated || above
}

// wantMeets tells whether a header meets a target, by the library's numbers.
func wantMeets(h api.Header, target *big.Int) bool {
	id := digest(wantHead(h))
	slices.Reverse(id[:])
	return new(big.Int).SetBytes(id[:]).Cmp(target) <= 0
}

// shifted is n with so many bytes of 0 behind it.
func shifted(n int64, zeros uint) *big.Int { return new(big.Int).Lsh(big.NewInt(n), 8*zeros) }

// sameBlock holds blocks against each other field by field; an empty list is as none.
func sameBlock(a, b api.Block) bool {
	return reflect.DeepEqual(full(a), full(b))
}

// full is a copy of a block without nil lists.
func full(b api.Block) api.Block {
	b.Txs = append([]api.Tx{}, b.Txs...)
	for i, t := range b.Txs {
		b.Txs[i].Ins, b.Txs[i].Outs = append([]api.In{}, t.Ins...), append([]api.Out{}, t.Outs...)
	}
	return b
}

// encodes is Encode and Long, held against the model.
func encodes(t *testing.T, b api.Block) (string, api.Errno) {
	t.Helper()
	long := len(wantBytes(b))
	want, wantE := wantEncode(b)
	got, e := Encode(b)
	if got != want || e != wantE {
		t.Fatalf("Encode of %d bytes: %d bytes, %d, not %d", long, len(got), e, wantE)
	}
	if n := Long(b); n != long {
		t.Fatalf("Long of %d bytes: %d", long, n)
	}
	return got, e
}

// decodes is Decode, held against the model.
func decodes(t *testing.T, s string) (api.Block, int, api.Errno) {
	t.Helper()
	want, wantAt, wantE := wantDecode(s)
	got, at, e := Decode(s)
	if !sameBlock(got, want) || at != wantAt || e != wantE {
		t.Fatalf("Decode of %d bytes: %d %d, not %d %d", len(s), at, e, wantAt, wantE)
	}
	return got, at, e
}

// refused is that bytes are none of a block, with a place, an error and nothing else.
func refused(t *testing.T, name, s string, wantAt int, want api.Errno) {
	t.Helper()
	b, at, e := decodes(t, s)
	if at != wantAt || e != want || !sameBlock(b, api.Block{}) {
		t.Errorf("Decode of %s, %d bytes: %d %d, not %d %d", name, len(s), at, e, wantAt, want)
	}
}

// head is a header whose fields, and whose bytes, are all different.
func head() api.Header {
	h := api.Header{Version: 0x04030201, Time: 0x84838281, Bits: 0x94939291, Nonce: 0xa4a3a2a1}
	for i := range 32 {
		h.Prev[i], h.Root[i] = byte(0x10+i), byte(0x40+i)
	}
	return h
}

// zeros is so many bytes 0.
func zeros(n int) string { return strings.Repeat("\x00", n) }

// plain is a transaction with so many inputs and outputs, and nothing wrong; another n is another one.
func plain(n, ins, outs int) api.Tx {
	t := api.Tx{Version: 1, Time: uint32(n)}
	for i := range ins {
		t.Ins = append(t.Ins, api.In{Point: api.Point{Tx: api.Hash{0: byte(i), 31: 1}, Index: uint32(i)}, Key: "k", Sequence: 7})
	}
	for i := range outs {
		t.Outs = append(t.Outs, api.Out{Value: uint64(i + 1), Lock: "l"})
	}
	return t
}

// sized is a transaction of just so many bytes, from 71 on, with nothing wrong but perhaps that.
func sized(n int) api.Tx {
	t := plain(0, 1, 1)
	for n -= 62; n > 200; n -= 109 {
		t.Outs = append(t.Outs, api.Out{Value: 1, Lock: strings.Repeat("f", 100)})
	}
	t.Outs = append(t.Outs, api.Out{Value: 1, Lock: strings.Repeat("l", n-9)})
	return t
}

// sizedBlock is a block of just so many bytes, from 6300 on, with nothing wrong but perhaps that.
func sizedBlock(n int) api.Block {
	return api.Block{Header: head(), Txs: []api.Tx{sized(3000), sized(n - 81 - 6000), sized(3000)}}
}

// longScript is a transaction with a lock that is too long, longTx one with too many bytes, longBoth one with both.
func longScript() api.Tx {
	t := plain(0, 2, 2)
	t.Outs[1].Lock = strings.Repeat("l", 521)
	return t
}

func longTx() api.Tx { return sized(4097) }

func longBoth() api.Tx {
	t := sized(4200)
	t.Ins[0].Key = strings.Repeat("k", 521)
	return t
}

// lotText is a text of at most most bytes by lots.
func lotText(lots *rand.Rand, most int) string {
	b := make([]byte, lots.Intn(most+1))
	lots.Read(b)
	return string(b)
}

// lotHash is a hash by lots.
func lotHash(lots *rand.Rand) api.Hash {
	var h api.Hash
	lots.Read(h[:])
	return h
}

// lotTx is a transaction by lots.
func lotTx(lots *rand.Rand, ins, outs, long int) api.Tx {
	t := api.Tx{Version: lots.Uint32(), Time: lots.Uint32()}
	for range lots.Intn(ins + 1) {
		t.Ins = append(t.Ins, api.In{Point: api.Point{Tx: lotHash(lots), Index: lots.Uint32()}, Key: lotText(lots, long), Sequence: lots.Uint32()})
	}
	for range lots.Intn(outs + 1) {
		t.Outs = append(t.Outs, api.Out{Value: lots.Uint64(), Lock: lotText(lots, long)})
	}
	return t
}

// lotHead is a header by lots.
func lotHead(lots *rand.Rand) api.Header {
	return api.Header{Version: lots.Uint32(), Prev: lotHash(lots), Root: lotHash(lots), Time: lots.Uint32(), Bits: lots.Uint32(), Nonce: lots.Uint32()}
}

// lotBlock is a block by lots, of at most so many transactions.
func lotBlock(lots *rand.Rand, txs, long int) api.Block {
	b := api.Block{Header: lotHead(lots)}
	for range lots.Intn(txs + 1) {
		b.Txs = append(b.Txs, lotTx(lots, 4, 4, long))
	}
	return b
}
