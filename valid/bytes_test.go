package valid

import (
	"encoding/hex"
	"math"
	"math/rand"
	"strings"
	"testing"

	"bedrock/api"
)

// reads is Of, held against the model; what is a set has just these bytes.
func reads(t *testing.T, s string) api.Errno {
	t.Helper()
	m, want := wantOf(s)
	c, e := Of(s)
	if e != want || (c == nil) != (e != api.OK) {
		t.Fatalf("Of of %d bytes: %v %d, not %d", len(s), c != nil, e, want)
	}
	if e == api.OK {
		if len(m.spots) < 50 { // of all that are near great ones it would take long
			(&world{t, c, m}).same()
		}
		if c.Bytes() != s || c.Len() != len(m.spots) {
			t.Fatalf("Bytes of Of of %d bytes", len(s))
		}
	}
	return e
}

// fails is that bytes are none of a set.
func fails(t *testing.T, what, s string, want api.Errno) {
	t.Helper()
	if e := reads(t, s); e != want {
		t.Errorf("Of of %s: %d, not %d", what, e, want)
	}
}

// texts is the bytes of several sets.
func texts() []string {
	few := stock(3, 300)
	locked := plain(1000000, 300)
	locked.Coinbase, locked.Out.Lock = true, strings.Repeat("l", 520)
	few = few.with(point(1), locked)
	short := plain(0, 0)
	short.Out.Lock = "ab"
	top := model{tip: api.Hash{1}, height: 1<<31 - 1}.with(null, plain(5, 1<<31-1)).with(api.Point{}, short)
	return []string{model{}.text(), few.text(), top.text(), stock(254, 20).text()}
}

// Promise 16.4: the bytes of a set, written out.
func TestBytesWrittenOut(t *testing.T) {
	m := model{tip: api.Hash{0: 0xa1, 31: 0xa2}, height: 0x01020304}
	second := api.Coin{Out: api.Out{Value: 0x0d0e0f, Lock: "xyz"}, Height: 0x01020303, Coinbase: true}
	m = m.with(api.Point{Tx: api.Hash{0: 0xb1, 31: 0xb2}, Index: 0x11121314}, second)
	m = m.with(api.Point{Tx: api.Hash{0: 0xb1, 31: 0xb1}, Index: 0x21222324}, plain(7, 9))
	zeros := strings.Repeat("00", 30)
	want := "a1" + zeros + "a2" + "04030201" + "02" +
		"b1" + zeros + "b1" + "24232221" + "09000000" + "00" + "0700000000000000" + "00" +
		"b1" + zeros + "b2" + "14131211" + "03030201" + "01" + "0f0e0d0000000000" + "03" + "78797a"
	s, _ := hex.DecodeString(want)
	c, e := Of(string(s))
	if e != api.OK {
		t.Fatal("Of", e)
	}
	(&world{t, c, m}).same()
	if got := hex.EncodeToString([]byte(c.Bytes())); got != want {
		t.Error("Bytes", got)
	}
}

// Promise 16.4: texts cut at each place.
func TestOfCut(t *testing.T) {
	for _, s := range texts() {
		fails(t, "all", s, api.OK)
		for n := range min(len(s), 2000) {
			fails(t, "a beginning", s[:n], api.ErrCut)
		}
		for n := max(0, len(s)-200); n < len(s); n++ {
			fails(t, "a beginning", s[:n], api.ErrCut)
		}
	}
}

// Promise 16.4: texts with one byte changed, at each place.
func TestOfChanged(t *testing.T) {
	lots := rand.New(rand.NewSource(16))
	for _, s := range texts() {
		for at := range s {
			if len(s) > 2000 && at > 150 && at < len(s)-60 && at%97 != 0 {
				continue // the midst of long texts is alike
			}
			for _, with := range []byte{0, 1, 2, s[at] + 1, s[at] - 1, 0x7f, 0x80, 252, 253, 254, 255, byte(lots.Intn(256))} {
				reads(t, s[:at]+string([]byte{with})+s[at+1:])
			}
		}
	}
}

// Promise 16.4: bytes behind a text, and bytes that are missing in its midst or stand there twice.
func TestOfMore(t *testing.T) {
	for _, s := range texts() {
		for _, more := range []string{"\x00", "\x01", "\xff", s, zeros(49), zeros(5000)} {
			fails(t, "more", s+more, api.ErrMore)
		}
		for at := range min(len(s), 700) {
			reads(t, s[:at]+s[at+1:])
			reads(t, s[:at]+s[at:at+1]+s[at:])
		}
	}
}

// Promise 16.4: each part that is wrong, at the first coin and at the second one; of two the first one is told.
func TestOfParts(t *testing.T) {
	tip := strings.Repeat("t", 32) + four(50)
	coin := func(n int) string { return four(50) + "\x01" + eight(uint64(n)) + "\x02ab" }
	at := func(first byte, place uint32) string { return strings.Repeat(string([]byte{first}), 32) + four(place) }
	a, b := at(1, 5)+coin(1), at(2, 4)+coin(2)
	fails(t, "two coins", tip+"\x02"+a+b, api.OK)
	for _, x := range []struct {
		what, s string
		want    api.Errno
	}{
		{"a tip's height of 2^31 - 1", strings.Repeat("t", 32) + "\xff\xff\xff\x7f\x00", api.OK},
		{"a tip's height of 2^31", strings.Repeat("t", 32) + "\x00\x00\x00\x80\x00", api.ErrMore},
		{"a tip's height of 2^32 - 1, and a count that is cut", strings.Repeat("t", 32) + "\xff\xff\xff\xff\xfd", api.ErrMore},
		{"a count that is not short", tip + "\xfd\x02\x00" + a + b, api.ErrForm},
		{"a count of 252 that is not short", tip + "\xfd\xfc\x00" + a, api.ErrForm},
		{"a count that is cut", tip + "\xfd\x02", api.ErrCut},
		{"a great count", tip + "\xff\xff\xff\xff\xff\xff\xff\xff\xff" + a + b, api.ErrCut},
		{"a great count of 2^32", tip + "\xff\x00\x00\x00\x00\x01\x00\x00\x00" + a + b, api.ErrCut},
		{"a count below", tip + "\x01" + a + b, api.ErrMore},
		{"a count above", tip + "\x03" + a + b, api.ErrCut},
		{"none, and more", tip + "\x00" + a, api.ErrMore},
		{"points that fall", tip + "\x02" + b + a, api.ErrForm},
		{"a point twice", tip + "\x02" + a + a, api.ErrForm},
		{"places that fall", tip + "\x02" + at(1, 256) + coin(1) + at(1, 255) + coin(1), api.ErrForm},
		{"places that rise", tip + "\x02" + at(1, 255) + coin(1) + at(1, 256) + coin(1), api.OK},
		{"points that fall behind others", tip + "\x03" + a + b + at(2, 3) + coin(1), api.ErrForm},
		{"points that fall, and are cut behind", tip + "\x02" + b + at(1, 5), api.ErrForm},
		{"points that fall, and are cut", tip + "\x02" + b + at(1, 5)[:35], api.ErrCut},
		{"points that fall, and a height above", tip + "\x02" + b + at(1, 5) + four(51), api.ErrForm},
		{"a height above the tip's", tip + "\x02" + a + at(2, 4) + four(51) + coin(2)[4:], api.ErrForm},
		{"a height above 2^31 - 1", tip + "\x02" + a + at(2, 4) + "\x00\x00\x00\x80" + coin(2)[4:], api.ErrForm},
		{"a height above the tip's, and cut", tip + "\x02" + a + at(2, 4) + four(51), api.ErrForm},
		{"a height that is cut", tip + "\x02" + a + at(2, 4) + "\x33\x00\x00", api.ErrCut},
		{"a height above at the first one", tip + "\x02" + at(1, 5) + four(99) + coin(1)[4:] + b, api.ErrForm},
		{"a coinbase of 2", tip + "\x02" + a + at(2, 4) + four(50) + "\x02" + coin(2)[5:], api.ErrForm},
		{"a coinbase of 255, and cut", tip + "\x02" + a + at(2, 4) + four(50) + "\xff", api.ErrForm},
		{"a coinbase of 2 and too great a value", tip + "\x01" + at(1, 5) + four(50) + "\x02" + eight(1000001), api.ErrForm},
		{"a value of MaxMoney", tip + "\x02" + a + at(2, 4) + coin(1000000), api.OK},
		{"a value above MaxMoney", tip + "\x02" + a + at(2, 4) + coin(1000001), api.ErrMore},
		{"the greatest value", tip + "\x01" + at(2, 4) + four(50) + "\x01" + eight(math.MaxUint64) + "\x00", api.ErrMore},
		{"a value above MaxMoney, and cut", tip + "\x01" + at(2, 4) + four(50) + "\x01" + eight(1000001), api.ErrMore},
		{"a value above MaxMoney, cut", tip + "\x01" + at(2, 4) + four(50) + "\x01" + eight(math.MaxUint64)[:7], api.ErrCut},
		{"a value above MaxMoney and a lock above", tip + "\x01" + at(2, 4) + four(50) + "\x01" + eight(1000001) + "\xfd\x01", api.ErrMore},
		{"a lock of 520", tip + "\x01" + a[:49] + "\xfd\x08\x02" + strings.Repeat("l", 520), api.OK},
		{"a lock of 521", tip + "\x01" + a[:49] + "\xfd\x09\x02" + strings.Repeat("l", 521), api.ErrMore},
		{"a lock of 521, and cut", tip + "\x01" + a[:49] + "\xfd\x09\x02", api.ErrMore},
		{"a lock of 520, cut", tip + "\x01" + a[:49] + "\xfd\x08\x02" + strings.Repeat("l", 519), api.ErrCut},
		{"a great lock", tip + "\x01" + a[:49] + "\xff\xff\xff\xff\xff\xff\xff\xff\xff", api.ErrMore},
		{"a lock whose count is not short", tip + "\x01" + a[:49] + "\xfd\x02\x00ab", api.ErrForm},
		{"a lock whose count is cut", tip + "\x01" + a[:49] + "\xfd\x02", api.ErrCut},
		{"no lock", tip + "\x01" + a[:49], api.ErrCut},
		{"a form and more", tip + "\x01" + at(2, 4) + four(50) + "\x02" + eight(2) + "\x00x", api.ErrForm},
	} {
		fails(t, x.what, x.s, x.want)
	}
}

// Promises 16.4 and 16.7: a set of all that there may be, there and back, and on from there.
func TestOfIsTheSet(t *testing.T) {
	m, b, height := spoiled()
	w := risen(t, m)
	u := w.takes(b, height)
	again, e := Of(w.c.Bytes())
	if e != api.OK {
		t.Fatal("Of", e)
	}
	x := &world{t, again, w.m}
	x.same()
	if x.disconnects(b, u, height) != api.OK || x.c.Bytes() != m.text() {
		t.Error("Disconnect of what was read")
	}
	w.same()
	x.refuses("an id of which one is there", func() api.Block { _, b, _ := spoiled(blockRots()[10]); return b }(), height, 0, api.ErrPaid)
	x.takes(b, height)
}
