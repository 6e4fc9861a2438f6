package block

import (
	"math"
	"math/rand"
	"reflect"
	"strings"
	"testing"

	"bedrock/api"
	"bedrock/tx"
)

// null is a coinbase's point.
var null = api.Point{Index: 4294967295}

// keyed is a coinbase with a key.
func keyed(key string) api.Tx { return api.Tx{Ins: []api.In{{Point: null, Key: key}}} }

// Promise 11.3 and the chapter's example: the transaction, field by field.
func TestCoinbase(t *testing.T) {
	outs := []api.Out{{Value: 5, Lock: "lock"}, {Value: math.MaxUint64, Lock: strings.Repeat("l", 600)}}
	for _, x := range []struct {
		height int
		bytes  string
	}{
		{0, "\x00\x00\x00\x00"},
		{1, "\x01\x00\x00\x00"},
		{7, "\x07\x00\x00\x00"},
		{255, "\xff\x00\x00\x00"},
		{256, "\x00\x01\x00\x00"},
		{0x01020304, "\x04\x03\x02\x01"},
		{1<<31 - 2, "\xfe\xff\xff\x7f"},
		{1<<31 - 1, "\xff\xff\xff\x7f"},
	} {
		for _, extra := range []string{"", "x", "\x00", strings.Repeat("e", 95), strings.Repeat("\xff", 96)} {
			for n := range 3 {
				want := api.Tx{Version: 1, Ins: []api.In{{Point: null, Key: x.bytes + extra, Sequence: 4294967295}}, Outs: outs[:n]}
				got, e := Coinbase(x.height, extra, outs[:n]...)
				if !tx.Same(got, want) || e != api.OK {
					t.Fatalf("Coinbase(%d, %d bytes, %d outputs): %v %d", x.height, len(extra), n, got, e)
				}
				if h, ok := Height(got); h != x.height || !ok || !IsCoinbase(got) {
					t.Fatalf("Height of Coinbase(%d): %d %v", x.height, h, ok)
				}
			}
		}
	}
	if got, _ := Coinbase(7, "x"); got.Ins[0].Key != "\x07\x00\x00\x00x" || len(got.Outs) != 0 {
		t.Errorf("Coinbase(7, x): %v", got)
	}
	if got, e := Coinbase(7, "x", api.Out{Value: 5}); tx.Check(got) != api.OK || e != api.OK {
		t.Errorf("Check of a coinbase: %d", tx.Check(got))
	}
}

// Promise 11.3: ErrArg below height 0, above 2^31 - 1, with more than 96 bytes of extra, and nothing beside it.
func TestCoinbaseArg(t *testing.T) {
	for _, x := range []struct {
		height, extra int
		want          api.Errno
	}{
		{-1, 0, api.ErrArg}, {-2, 0, api.ErrArg}, {math.MinInt, 0, api.ErrArg}, {math.MinInt32, 5, api.ErrArg},
		{1 << 31, 0, api.ErrArg}, {1<<31 + 1, 0, api.ErrArg}, {1 << 32, 0, api.ErrArg}, {1<<32 + 7, 0, api.ErrArg}, {math.MaxInt, 0, api.ErrArg},
		{0, 97, api.ErrArg}, {7, 98, api.ErrArg}, {1<<31 - 1, 1000, api.ErrArg}, {-1, 97, api.ErrArg}, {1 << 31, 97, api.ErrArg},
		{0, 0, api.OK}, {0, 96, api.OK}, {1<<31 - 1, 0, api.OK}, {1<<31 - 1, 96, api.OK},
	} {
		got, e := Coinbase(x.height, strings.Repeat("e", x.extra), api.Out{Value: 5})
		if e != x.want || (e != api.OK && !reflect.DeepEqual(got, api.Tx{})) {
			t.Errorf("Coinbase(%d, %d bytes): %v %d", x.height, x.extra, got, e)
		}
	}
}

// Rule R4: a coinbase has outputs of its own.
func TestCoinbaseMemory(t *testing.T) {
	outs := make([]api.Out, 2, 8)
	outs[0].Value, outs[1].Value = 1, 2
	first, _ := Coinbase(1, "x", outs...)
	second, _ := Coinbase(1, "x", outs...)
	outs[0].Value = 9
	_ = append(outs, api.Out{Value: 10})
	if first.Outs[0].Value != 1 || first.Outs[1].Value != 2 {
		t.Error("a coinbase keeps what was handed in")
	}
	clear(first.Outs[:cap(first.Outs)])
	clear(first.Ins[:cap(first.Ins)])
	if outs[0].Value != 9 || outs[1].Value != 2 || second.Outs[0].Value != 1 || second.Ins[0].Key != "\x01\x00\x00\x00x" {
		t.Error("two coinbases share memory")
	}
	if spare := outs[:3]; spare[2].Value != 10 {
		t.Error("a coinbase shares spare room")
	}
}

// Promise 11.3: the height of keys of all lengths, and above 2^31 - 1.
func TestHeight(t *testing.T) {
	for _, x := range []struct {
		key  string
		want int
		ok   bool
	}{
		{"", 0, false},
		{"\x01", 0, false},
		{"\x01\x02", 0, false},
		{"\x01\x02\x03", 0, false},
		{"\x01\x02\x03\x04", 0x04030201, true},
		{"\x01\x02\x03\x04\x05", 0x04030201, true},
		{"\x00\x00\x00\x00", 0, true},
		{"\x00\x00\x00\x00bedrock", 0, true},
		{"\x00\x00\x00\x01" + strings.Repeat("\xff", 600), 1 << 24, true},
		{"\xfe\xff\xff\x7f", 1<<31 - 2, true},
		{"\xff\xff\xff\x7f", 1<<31 - 1, true},
		{"\xff\xff\xff\x7f\xff", 1<<31 - 1, true},
		{"\x00\x00\x00\x80", 0, false},
		{"\x01\x00\x00\x80", 0, false},
		{"\xff\xff\xff\xff", 0, false},
		{"\x07\x00\x00\xff\x00", 0, false},
	} {
		if h, ok := Height(keyed(x.key)); h != x.want || ok != x.ok {
			t.Errorf("Height of the key %x: %d %v", x.key, h, ok)
		}
		other := keyed(x.key)
		other.Ins[0].Point.Index--
		if h, ok := Height(other); h != 0 || ok {
			t.Errorf("Height of no coinbase: %d %v", h, ok)
		}
	}
}

// Promise 11.3: one input, and its whole point, make a coinbase; no height of another one.
func TestIsCoinbase(t *testing.T) {
	with := func(points ...api.Point) api.Tx {
		x := api.Tx{Version: 1, Outs: []api.Out{{Value: 5}}}
		for _, p := range points {
			x.Ins = append(x.Ins, api.In{Point: p, Key: "\x07\x00\x00\x00", Sequence: 4294967295})
		}
		return x
	}
	for _, x := range []struct {
		t    api.Tx
		want bool
	}{
		{with(null), true},
		{with(), false},
		{with(null, null), false},
		{with(null, api.Point{}), false},
		{with(api.Point{}, null), false},
		{with(api.Point{}), false},
		{with(api.Point{Index: 4294967294}), false},
		{with(api.Point{Tx: api.Hash{0: 1}, Index: 4294967295}), false},
		{with(api.Point{Tx: api.Hash{31: 1}, Index: 4294967295}), false},
		{api.Tx{}, false},
		{api.Tx{Ins: []api.In{}}, false},
	} {
		if got := IsCoinbase(x.t); got != x.want {
			t.Errorf("IsCoinbase of %v: %v", tx.Points(x.t), got)
		}
		want := 0
		if x.want {
			want = 7
		}
		if h, ok := Height(x.t); h != want || ok != x.want {
			t.Errorf("Height of %v: %d %v", tx.Points(x.t), h, ok)
		}
	}
	bare := api.Tx{Version: 9, Ins: []api.In{{Point: null, Key: strings.Repeat("k", 600), Sequence: 3}}, Time: 8}
	if !IsCoinbase(bare) {
		t.Error("the key, the sequence or the outputs matter")
	}
}

// Promise 11.4 and the chapter's examples: what a block makes at each edge, and far from them.
func TestReward(t *testing.T) {
	for _, x := range []struct {
		height int
		want   uint64
	}{
		{0, 5000}, {1, 5000}, {63, 5000}, {64, 2500}, {127, 2500}, {128, 1250}, {191, 1250}, {192, 625}, {255, 625}, {256, 312},
		{64 * 12, 1}, {64*13 - 1, 1}, {64 * 13, 0}, {64 * 63, 0}, {64 * 64, 0}, {64 * 65, 0}, {64 * 128, 0}, {10000, 0},
		{64 << 8, 0}, {64 << 32, 0}, {1<<31 - 1, 0}, {1 << 31, 0}, {1 << 38, 0}, {math.MaxInt - 63, 0}, {math.MaxInt, 0},
		{-1, 0}, {-63, 0}, {-64, 0}, {-65, 0}, {math.MinInt32, 0}, {math.MinInt, 0},
	} {
		if got := Reward(x.height); got != x.want {
			t.Errorf("Reward(%d): %d, not %d", x.height, got, x.want)
		}
	}
	want, all := uint64(5000), uint64(0)
	for height := range 64 * 20 {
		if height > 0 && height%64 == 0 {
			want /= 2
		}
		if got := Reward(height); got != want {
			t.Errorf("Reward(%d): %d, not %d", height, got, want)
		}
		all += Reward(height)
	}
	if all > api.MaxMoney {
		t.Errorf("all that is ever made: %d", all)
	}
	lots := rand.New(rand.NewSource(118))
	for range 1000 {
		if got := Reward(-1 - lots.Int()); got != 0 {
			t.Fatalf("a height below 0: %d", got)
		}
	}
}
