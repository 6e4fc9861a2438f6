package block

import (
	"math"
	"math/big"
	"slices"
	"strings"
	"testing"

	"bedrock/api"
	"bedrock/sha"
)

const lastNonce = math.MaxUint32

// limit is the target that every second header meets, scarce one that one of 256 meets, with the bits of each.
const (
	limitBits  = 0x207fffff
	scarceBits = 0x20010000
)

func limit() *big.Int { return shifted(0x7fffff, 29) }

func scarce() *big.Int { return shifted(0x010000, 29) }

// wantMine is Mine by the chapter's words.
func wantMine(h api.Header, target *big.Int, tries uint64) (api.Header, bool) {
	for try := h; tries > 0; tries-- {
		if wantMeets(try, target) {
			return try, true
		}
		if try.Nonce == lastNonce {
			break
		}
		try.Nonce++
	}
	return h, false
}

// mines is Mine, held against the model.
func mines(t *testing.T, h api.Header, target *big.Int, tries uint64) (api.Header, bool) {
	t.Helper()
	want, wantFound := wantMine(h, target, tries)
	got, found := Mine(h, tries)
	if got != want || found != wantFound {
		t.Fatalf("Mine from %d with %d tries: %d %v, not %d %v", h.Nonce, tries, got.Nonce, found, want.Nonce, wantFound)
	}
	if found && !Meets(got) {
		t.Fatal("what was mined does not meet its target")
	}
	return got, found
}

// Promise 11.4: the least nonce from the header's own on, with just enough tries, with one fewer, with more.
func TestMine(t *testing.T) {
	for _, x := range []struct {
		bits   uint32
		target *big.Int
	}{{limitBits, limit()}, {scarceBits, scarce()}} {
		for time := range uint32(40) {
			h := head()
			h.Bits, h.Time, h.Nonce = x.bits, time, 1000*time
			far, found := mines(t, h, x.target, 100000)
			if !found {
				t.Fatal("nothing was mined")
			}
			need := uint64(far.Nonce-h.Nonce) + 1
			for _, tries := range []uint64{need, need + 1, 1 << 31, 1<<32 - 1, 1 << 32, 1<<32 + 1, 1 << 63, math.MaxUint64} {
				if got, found := mines(t, h, x.target, tries); got != far || !found {
					t.Fatalf("%d tries: %d %v", tries, got.Nonce, found)
				}
			}
			for _, tries := range []uint64{0, need - 1, need / 2} {
				if got, found := mines(t, h, x.target, tries); got != h || found {
					t.Fatalf("%d of %d tries: %d %v", tries, need, got.Nonce, found)
				}
			}
			if got, found := mines(t, far, x.target, 1); got != far || !found {
				t.Fatalf("from a nonce that meets: %d %v", got.Nonce, found)
			}
		}
	}
}

// Promise 11.4: without tries nothing is found, also where the header meets its target; with one its own nonce is tried alone.
func TestMineFewTries(t *testing.T) {
	met := 0
	for nonce := range uint32(200) {
		h := head()
		h.Bits, h.Nonce = limitBits, nonce
		if got, found := Mine(h, 0); got != h || found {
			t.Fatalf("no tries: %d %v", got.Nonce, found)
		}
		got, found := mines(t, h, limit(), 1)
		if got != h || found != Meets(h) {
			t.Fatalf("one try: %d %v", got.Nonce, found)
		}
		if found {
			met++
		}
	}
	if met < 50 || met > 150 {
		t.Errorf("%d of 200 meet their target", met)
	}
}

// Promise 11.4: 4294967295 is the last nonce: it is tried, and nothing behind it.
func TestMineLastNonces(t *testing.T) {
	ends, lasts, wraps := 0, 0, 0
	for time := range uint32(300) {
		h := head()
		h.Bits, h.Time = limitBits, time
		first := h
		first.Nonce = 0
		for back := range uint32(4) {
			h.Nonce = lastNonce - back
			for _, tries := range []uint64{0, 1, 2, 3, 4, 5, 1 << 32, 1<<32 + 5, math.MaxUint64 - 1, math.MaxUint64} {
				got, found := mines(t, h, limit(), tries)
				switch {
				case tries < 1<<32 || back < 3:
				case found && got.Nonce == lastNonce:
					lasts++
				case !found && wantMeets(first, limit()):
					wraps++
				case !found:
					ends++
				}
			}
		}
	}
	if ends < 10 || lasts < 10 || wraps < 10 {
		t.Errorf("none is left %d times, the last one %d times, 0 would do %d times", ends, lasts, wraps)
	}
}

// Promise 11.4: with bits that may not be no nonce meets, however many are tried; with the hardest ones none of a few.
func TestMineNever(t *testing.T) {
	for _, bits := range []uint32{0, 1, 0x01003456, 0x03000000, 0x20800001, 0x04923456, 0x2100ffff, 0x21008000, 0xff7fffff, 0xffffffff} {
		for _, nonce := range []uint32{0, 1, 1 << 31, lastNonce} {
			h := head()
			h.Bits, h.Nonce = bits, nonce
			for _, tries := range []uint64{0, 1, 1000, 1 << 32, math.MaxUint64} {
				if got, found := Mine(h, tries); got != h || found {
					t.Fatalf("Mine with bits %x, %d tries: %v", bits, tries, found)
				}
			}
		}
	}
	h := head()
	h.Bits = 0x03000001
	if got, found := mines(t, h, big.NewInt(1), 3000); got != h || found {
		t.Error("Mine with the target 1")
	}
}

// Promises 11.4 and 11.5: what Build makes has the least nonce, is whole and meets its target, if its transactions are not none and not mutated.
func TestBuild(t *testing.T) {
	base, _ := Coinbase(3, "", api.Out{Value: 5000})
	for i, txs := range [][]api.Tx{{base}, {base, plain(1, 1, 1)}, {base, plain(1, 1, 1), plain(2, 2, 2)}, {{}}, sizedBlock(8192).Txs, nil, {}, {base, base}} {
		for time := range uint32(10) {
			for _, x := range []struct {
				bits   uint32
				target *big.Int
			}{{limitBits, limit()}, {scarceBits, scarce()}} {
				prev := api.Hash{0: byte(time), 31: 9}
				root, mutated := wantRoot(ids(txs...)...)
				h := api.Header{Version: 1, Prev: prev, Root: root, Time: time, Bits: x.bits}
				h, _ = wantMine(h, x.target, 1<<32)
				b, e := Build(prev, time, x.bits, txs...)
				if e != api.OK || !sameBlock(b, api.Block{Header: h, Txs: txs}) {
					t.Fatalf("Build %d: %v %d, not %v", i, b.Header, e, h)
				}
				if !Meets(b.Header) || Whole(b) != (len(txs) > 0 && !mutated) {
					t.Fatalf("Build %d: Meets %v, Whole %v", i, Meets(b.Header), Whole(b))
				}
				s, e := Encode(b)
				if back, _, f := Decode(s); e != api.OK || f != api.OK || !Same(back, b) {
					t.Fatalf("Build %d: Encode %d, Decode %d", i, e, f)
				}
			}
		}
	}
}

// Promise 11.4: the error of Encode, ahead of ErrMined; of bits that no nonce meets ErrMined; nothing beside either.
func TestBuildRefused(t *testing.T) {
	good, long := []api.Tx{plain(1, 1, 1)}, sizedBlock(8193).Txs
	for _, x := range []struct {
		name string
		bits uint32
		txs  []api.Tx
		want api.Errno
	}{
		{"a long lock", limitBits, []api.Tx{plain(1, 1, 1), longScript()}, api.ErrScript},
		{"too many bytes of one", limitBits, []api.Tx{longTx(), longScript()}, api.ErrSize},
		{"too many bytes of all", limitBits, long, api.ErrLong},
		{"too many bytes of all, and one", limitBits, append(slices.Clone(long), longTx()), api.ErrSize},
		{"no bits", 0, good, api.ErrMined},
		{"bits with the sign", 0x20ffffff, good, api.ErrMined},
		{"bits above the limit", 0x2100ffff, good, api.ErrMined},
		{"no bits, no transactions", 0, nil, api.ErrMined},
		{"a long lock, no bits", 0, []api.Tx{longScript()}, api.ErrScript},
		{"too many bytes of one, no bits", 0, []api.Tx{longTx()}, api.ErrSize},
		{"too many bytes of all, no bits", 0, long, api.ErrLong},
	} {
		if b, e := Build(api.Hash{5: 5}, 7, x.bits, x.txs...); e != x.want || !sameBlock(b, api.Block{}) {
			t.Errorf("Build of %s: %d, not %d", x.name, e, x.want)
		}
	}
}

// Rule R4: what Build makes has lists of its own, also where one transaction stands there twice.
func TestBuildMemory(t *testing.T) {
	one := plain(1, 3, 3)
	txs := []api.Tx{one, plain(2, 2, 2), one}
	old := full(api.Block{Txs: txs})
	b, _ := Build(api.Hash{}, 1, limitBits, txs...)
	b.Txs[0].Ins[0].Key, b.Txs[0].Outs[0].Value = "other", 99
	if !Same(api.Block{Txs: txs}, old) || b.Txs[2].Ins[0].Key != "k" || b.Txs[2].Outs[0].Value != 1 {
		t.Error("two lists share memory")
	}
	again, _ := Build(api.Hash{}, 1, limitBits, txs...)
	spoil(b)
	if !Same(api.Block{Txs: txs}, old) || !Same(api.Block{Txs: again.Txs}, old) {
		t.Error("a block shares memory with what was handed in, or with another one")
	}
	spoil(api.Block{Txs: txs})
	if !Same(api.Block{Txs: again.Txs}, old) {
		t.Error("a block keeps what was handed in")
	}
}

// Promises 11.4 and 11.5: the first block, field by field; its nonce is the least one.
func TestGenesis(t *testing.T) {
	base := api.Tx{
		Version: 1,
		Ins:     []api.In{{Point: null, Key: "\x00\x00\x00\x00bedrock", Sequence: 4294967295}},
		Outs:    []api.Out{{Value: 5000}},
	}
	h := api.Header{Version: 1, Root: digest(wantTx(base)), Time: 1600000000, Bits: 0x207fffff}
	h, _ = wantMine(h, limit(), 1000)
	want := api.Block{Header: h, Txs: []api.Tx{base}}
	g := Genesis()
	if !sameBlock(g, want) || !Same(g, want) || g.Header.Nonce != 1 {
		t.Errorf("Genesis: %v", g)
	}
	if !Whole(g) || !Meets(g.Header) {
		t.Errorf("Whole %v, Meets %v", Whole(g), Meets(g.Header))
	}
	if height, ok := Height(g.Txs[0]); height != 0 || !ok || g.Txs[0].Outs[0].Value != Reward(0) {
		t.Errorf("Height %d %v", height, ok)
	}
	if id := sha.Text(ID(g.Header)); id != "15a332e542b4268fa44952a41fee8a7786c28bc2b989bbf9cf9cfea8a9d487f1" {
		t.Errorf("ID: %s", id)
	}
	s, e := Encode(g)
	if s != wantBytes(want) || len(s) != 152 || e != api.OK || !strings.Contains(s, "bedrock") {
		t.Errorf("Encode: %d bytes, %d", len(s), e)
	}
	spoil(g)
	if !sameBlock(Genesis(), want) {
		t.Error("two first blocks share memory")
	}
}
