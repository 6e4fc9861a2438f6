package block

import (
	"math/rand"
	"slices"
	"strings"
	"testing"

	"bedrock/api"
)

// shapes is blocks of unlike shapes: none, one and several transactions, and as many as let a count have three bytes.
func shapes() []api.Block {
	list := []api.Block{{}, {Header: head()}, sizedBlock(8191), sizedBlock(8192)}
	for _, txs := range [][]api.Tx{
		{{}},
		{plain(1, 1, 1)},
		{plain(1, 0, 0), plain(2, 3, 0), plain(3, 0, 3), plain(4, 2, 2)},
		{sized(4096), plain(1, 1, 1)},
		make([]api.Tx, 252),
		make([]api.Tx, 253),
		make([]api.Tx, 810),
	} {
		list = append(list, api.Block{Header: head(), Txs: txs})
	}
	return list
}

// Promise 11.2: a block's bytes are its header, a count and its transactions.
func TestEncodeParts(t *testing.T) {
	h := head()
	one := api.Tx{Version: 0x01020304, Outs: []api.Out{{Value: 5, Lock: "lo"}}, Time: 9}
	first := "\x04\x03\x02\x01" + "\x00" + "\x01" + "\x05\x00\x00\x00\x00\x00\x00\x00" + "\x02lo" + "\x09\x00\x00\x00"
	for _, x := range []struct {
		txs  []api.Tx
		want string
	}{
		{nil, "\x00"},
		{[]api.Tx{}, "\x00"},
		{[]api.Tx{one}, "\x01" + first},
		{[]api.Tx{{}, one, {}}, "\x03" + zeros(10) + first + zeros(10)},
		{make([]api.Tx, 252), "\xfc" + zeros(2520)},
		{make([]api.Tx, 253), "\xfd\xfd\x00" + zeros(2530)},
	} {
		b := api.Block{Header: h, Txs: x.txs}
		if s, e := encodes(t, b); s != Head(h)+x.want || e != api.OK || Long(b) != 80+len(x.want) {
			t.Errorf("Encode of %d transactions: %d bytes, %d, Long %d", len(x.txs), len(s), e, Long(b))
		}
	}
}

// Promise 11.2: MaxBlock bytes are told, one more is not; Long tells how many there are, whatever the limits.
func TestEncodeLong(t *testing.T) {
	for _, n := range []int{6400, 8190, 8191, 8192, 8193, 8194, 9000, 10000} {
		b, want := sizedBlock(n), api.OK
		if n > 8192 {
			want = api.ErrLong
		}
		if s, e := encodes(t, b); e != want || Long(b) != n || (e == api.OK) != (len(s) == n) || (e != api.OK) != (s == "") {
			t.Errorf("Encode of %d bytes: %d bytes, %d, Long %d", n, len(s), e, Long(b))
		}
	}
	for _, n := range []int{810, 811, 812, 8192, 8193, 70000} {
		b, long := api.Block{Txs: make([]api.Tx, n)}, 83+10*n
		if n > 65535 {
			long = 85 + 10*n
		}
		if _, e := encodes(t, b); (e == api.ErrLong) != (n > 810) || Long(b) != long {
			t.Errorf("%d transactions without anything: %d, Long %d", n, e, Long(b))
		}
	}
}

// Promise 11.2: the error of the first transaction that may not be told, wherever it stands, ahead of ErrLong.
func TestEncodeTold(t *testing.T) {
	good := plain(1, 2, 2)
	for _, bad := range []struct {
		t    api.Tx
		want api.Errno
	}{{longScript(), api.ErrScript}, {longTx(), api.ErrSize}, {longBoth(), api.ErrScript}} {
		for place := range 4 {
			txs := slices.Insert([]api.Tx{good, good, good}, place, bad.t)
			if _, e := encodes(t, api.Block{Txs: txs}); e != bad.want {
				t.Errorf("at %d: %d, not %d", place, e, bad.want)
			}
			long := sizedBlock(9000)
			long.Txs = slices.Insert(long.Txs, min(place, 3), bad.t)
			if _, e := encodes(t, long); e != bad.want {
				t.Errorf("at %d of a long block: %d, not %d", place, e, bad.want)
			}
		}
		if _, e := encodes(t, api.Block{Txs: []api.Tx{bad.t}}); e != bad.want {
			t.Errorf("alone: %d, not %d", e, bad.want)
		}
	}
	for _, x := range []struct {
		first, second api.Tx
		want          api.Errno
	}{{longScript(), longTx(), api.ErrScript}, {longTx(), longScript(), api.ErrSize}, {longTx(), longBoth(), api.ErrSize}} {
		for _, txs := range [][]api.Tx{{x.first, x.second}, {good, x.first, good, x.second, good}, {x.first, sized(4000), sized(4000), x.second}} {
			if _, e := encodes(t, api.Block{Header: head(), Txs: txs}); e != x.want {
				t.Errorf("two of them: %d, not %d", e, x.want)
			}
		}
	}
}

// Promise 11.2: Long of blocks whose transactions may not be told.
func TestLongOfAny(t *testing.T) {
	deep := plain(1, 1, 1)
	deep.Ins[0].Key, deep.Outs[0].Lock = strings.Repeat("k", 70000), strings.Repeat("l", 300)
	wide := api.Tx{Ins: make([]api.In, 300), Outs: make([]api.Out, 66000)}
	for _, txs := range [][]api.Tx{nil, {longScript()}, {longTx(), longBoth()}, {deep}, {wide, deep}, {deep, wide, {}, deep}} {
		b := api.Block{Header: head(), Txs: txs}
		if n := Long(b); n != len(wantBytes(b)) {
			t.Errorf("Long: %d, not %d", n, len(wantBytes(b)))
		}
	}
}

// Promises 11.2 and 11.5: blocks by lots go out and come back.
func TestEncodeLots(t *testing.T) {
	lots := rand.New(rand.NewSource(114))
	told := 0
	for range 2000 {
		b := lotBlock(lots, 12, []int{3, 40, 300, 522}[lots.Intn(4)])
		s, e := encodes(t, b)
		if e != api.OK {
			continue
		}
		told++
		if back, at, e := decodes(t, s); e != api.OK || at != 0 || !Same(back, b) || !sameBlock(back, b) {
			t.Fatalf("Decode of Encode: %d %d", at, e)
		}
	}
	if told < 1000 || told > 1990 {
		t.Errorf("%d were told", told)
	}
}

// others is blocks that are unlike b in one field alone, each with the field's name; b has two transactions with two inputs and outputs.
func others(b api.Block) map[string]api.Block {
	all := map[string]api.Block{}
	add := func(name string, change func(b *api.Block)) {
		other := full(b)
		change(&other)
		all[name] = other
	}
	add("Version", func(b *api.Block) { b.Header.Version++ })
	add("Version, high", func(b *api.Block) { b.Header.Version ^= 1 << 31 })
	add("Prev, first byte", func(b *api.Block) { b.Header.Prev[0]++ })
	add("Prev, last byte", func(b *api.Block) { b.Header.Prev[31]++ })
	add("Root, first byte", func(b *api.Block) { b.Header.Root[0]++ })
	add("Root, last byte", func(b *api.Block) { b.Header.Root[31]++ })
	add("Time", func(b *api.Block) { b.Header.Time++ })
	add("Bits", func(b *api.Block) { b.Header.Bits++ })
	add("Nonce", func(b *api.Block) { b.Header.Nonce++ })
	add("Nonce, high", func(b *api.Block) { b.Header.Nonce ^= 1 << 31 })
	for i, at := range []string{"first", "second"} {
		add(at+" version", func(b *api.Block) { b.Txs[i].Version++ })
		add(at+" time", func(b *api.Block) { b.Txs[i].Time += 77 })
		add(at+" id", func(b *api.Block) { b.Txs[i].Ins[1].Point.Tx[31]++ })
		add(at+" place", func(b *api.Block) { b.Txs[i].Ins[1].Point.Index++ })
		add(at+" key", func(b *api.Block) { b.Txs[i].Ins[0].Key += "\x00" })
		add(at+" sequence", func(b *api.Block) { b.Txs[i].Ins[1].Sequence++ })
		add(at+" value", func(b *api.Block) { b.Txs[i].Outs[1].Value ^= 1 << 63 })
		add(at+" lock", func(b *api.Block) { b.Txs[i].Outs[0].Lock = "" })
		add(at+" inputs, fewer", func(b *api.Block) { b.Txs[i].Ins = b.Txs[i].Ins[:1] })
		add(at+" outputs, fewer", func(b *api.Block) { b.Txs[i].Outs = b.Txs[i].Outs[:1] })
		add(at+" outputs, more", func(b *api.Block) { b.Txs[i].Outs = append(b.Txs[i].Outs, api.Out{}) })
	}
	add("none", func(b *api.Block) { b.Txs = nil })
	add("the first", func(b *api.Block) { b.Txs = b.Txs[:1] })
	add("the second", func(b *api.Block) { b.Txs = b.Txs[1:] })
	add("one more", func(b *api.Block) { b.Txs = append(b.Txs, api.Tx{}) })
	add("turned", func(b *api.Block) { slices.Reverse(b.Txs) })
	return all
}

// Promise 11.5: two blocks that are unlike in one field alone are not the same, within the limits and far beyond them.
func TestSame(t *testing.T) {
	long := api.Block{Header: head(), Txs: []api.Tx{plain(1, 2, 2), plain(2, 2, 2)}}
	long.Txs[0].Ins[0].Key, long.Txs[1].Outs[1].Lock = strings.Repeat("k", 5000), strings.Repeat("l", 70000)
	for _, b := range []api.Block{{Header: head(), Txs: []api.Tx{plain(1, 2, 2), plain(2, 2, 2)}}, long} {
		if !Same(b, b) || !Same(b, full(b)) || !Same(full(b), b) {
			t.Error("a block is not the same as itself")
		}
		for name, other := range others(b) {
			if Same(b, other) || Same(other, b) {
				t.Errorf("%s: the same", name)
			}
			if !Same(other, full(other)) {
				t.Errorf("%s: not the same as itself", name)
			}
		}
	}
	many, more := api.Block{Txs: make([]api.Tx, 9000)}, api.Block{Txs: make([]api.Tx, 9001)}
	if !Same(many, full(many)) || Same(many, more) || Same(more, many) {
		t.Error("many transactions")
	}
	more = full(many)
	more.Txs[8999].Time = 1
	if Same(many, more) || Same(more, many) {
		t.Error("the last of many transactions")
	}
}

// Promise 11.5 and rule R3: an empty list is the same as none, but not as one with something that is all zero.
func TestSameEmpty(t *testing.T) {
	none := []api.Block{{}, {Txs: []api.Tx{}}, {Txs: make([]api.Tx, 0, 3)}}
	bare := []api.Block{{Txs: []api.Tx{{}}}, {Txs: []api.Tx{{Ins: []api.In{}}}}, {Txs: []api.Tx{{Outs: make([]api.Out, 0, 3)}}}}
	for _, list := range [][]api.Block{none, bare} {
		for _, a := range list {
			for _, b := range list {
				if !Same(a, b) {
					t.Error("an empty list is another one than none")
				}
			}
		}
	}
	for _, a := range none {
		for _, b := range bare {
			if Same(a, b) || Same(b, a) {
				t.Error("nothing is the same as a transaction of nothing")
			}
		}
	}
}

// Promise 11.5: Same tells of small blocks by lots what their bytes tell.
func TestSameLots(t *testing.T) {
	lots := rand.New(rand.NewSource(115))
	lot := func() api.Block {
		b := api.Block{Header: api.Header{Nonce: uint32(lots.Intn(2))}}
		for range lots.Intn(3) {
			x := api.Tx{Time: uint32(lots.Intn(2))}
			for range lots.Intn(2) {
				x.Outs = append(x.Outs, api.Out{Lock: zeros(lots.Intn(2))})
			}
			b.Txs = append(b.Txs, x)
		}
		return b
	}
	same := 0
	for range 20000 {
		a, b := lot(), lot()
		want := wantBytes(a) == wantBytes(b)
		if got := Same(a, b); got != want {
			t.Fatalf("Same(%v, %v): %v", a, b, got)
		}
		if want {
			same++
		}
	}
	if same < 100 || same > 19000 {
		t.Errorf("%d of 20000 are the same", same)
	}
}

// Rule R4: what is handed in stays as it is, its spare room too.
func TestMemoryHandedIn(t *testing.T) {
	all := api.Block{Header: head(), Txs: []api.Tx{plain(1, 4, 4), plain(2, 4, 4), plain(3, 4, 4), plain(4, 4, 4)}}
	old := full(all)
	b := api.Block{Header: all.Header, Txs: slices.Clone(all.Txs[:2])}
	for i := range b.Txs {
		b.Txs[i].Ins, b.Txs[i].Outs = all.Txs[i].Ins[:2], all.Txs[i].Outs[:2]
	}
	outs := []api.Out{{Value: 1}, {Value: 2}, {Value: 3}}
	Encode(b)
	Long(b)
	Root(all.Txs[:3]...)
	Whole(api.Block{Txs: all.Txs[:3]})
	IsCoinbase(b.Txs[0])
	Height(b.Txs[0])
	Coinbase(1, "", outs[:1]...)
	Build(api.Hash{}, 1, api.LimitBits, b.Txs...)
	Build(api.Hash{}, 1, api.LimitBits, all.Txs[:3]...)
	Same(b, all)
	if !sameBlock(all, old) || !slices.Equal(outs, []api.Out{{Value: 1}, {Value: 2}, {Value: 3}}) {
		t.Error("a call changed what it was handed")
	}
}
