package valid

import (
	"encoding/hex"
	"math"
	"math/rand"
	"slices"
	"strings"
	"testing"

	"bedrock/api"
)

// shapes is undos with nothing wrong, of all shapes.
func shapes() []api.Undo {
	long := api.Coin{Out: api.Out{Value: math.MaxUint64, Lock: strings.Repeat("\xfd", 520)}, Height: 1<<31 - 1, Coinbase: true}
	l := []api.Undo{
		{},
		{Spent: []api.Coin{}},
		{Spent: []api.Coin{{}}},
		{Spent: []api.Coin{long}},
		{Spent: []api.Coin{plain(1, 2), long, plain(1000001, 300), plain(1, 2)}},
	}
	for _, n := range []int{252, 253, 300} {
		l = append(l, api.Undo{Spent: slices.Repeat([]api.Coin{plain(uint64(n), n)}, n)})
	}
	for _, n := range []int{1, 252, 253, 254, 255, 256, 519} {
		c := plain(5, 5)
		c.Out.Lock = strings.Repeat("l", n)
		l = append(l, api.Undo{Spent: []api.Coin{c, plain(1, 1)}})
	}
	return l
}

// encodes is Encode, held against the model.
func encodes(t *testing.T, u api.Undo) (string, api.Errno) {
	t.Helper()
	want, wantE := wantEncode(u)
	s, e := Encode(u)
	if s != want || e != wantE {
		t.Fatalf("Encode of %d coins: %d bytes %d, not %d bytes %d", len(u.Spent), len(s), e, len(want), wantE)
	}
	return s, e
}

// decodes is Decode, held against the model; what is an undo has just these bytes.
func decodes(t *testing.T, s string) (api.Undo, api.Errno) {
	t.Helper()
	want, wantE := wantDecode(s)
	u, e := Decode(s)
	if e != wantE || !slices.Equal(u.Spent, want.Spent) {
		t.Fatalf("Decode of %d bytes: %d coins %d, not %d coins %d", len(s), len(u.Spent), e, len(want.Spent), wantE)
	}
	if back, told := Encode(u); e == api.OK && (back != s || told != api.OK) {
		t.Fatalf("Encode of Decode of %d bytes: %d bytes %d", len(s), len(back), told)
	}
	return u, e
}

// decodeFails is that bytes are none of an undo.
func decodeFails(t *testing.T, what, s string, want api.Errno) {
	t.Helper()
	if u, e := decodes(t, s); e != want || e != api.OK && u.Spent != nil {
		t.Errorf("Decode of %s: %d, not %d", what, e, want)
	}
}

// Promise 16.5: the bytes of an undo, written out.
func TestEncodeWrittenOut(t *testing.T) {
	u := api.Undo{Spent: []api.Coin{
		{Out: api.Out{Value: 0x0807060504030201, Lock: "xyz"}, Height: 0x7f020304, Coinbase: true},
		plain(5, 6),
	}}
	s, e := encodes(t, u)
	want := "02" + "0403027f" + "01" + "0102030405060708" + "03" + "78797a" + "06000000" + "00" + "0500000000000000" + "00"
	if got := hex.EncodeToString([]byte(s)); got != want || e != api.OK {
		t.Error("Encode", got, e)
	}
	if s, e := encodes(t, api.Undo{}); s != "\x00" || e != api.OK {
		t.Error("Encode of nothing", s, e)
	}
}

// Promise 16.5: undos of all shapes, there and back.
func TestEncodeDecode(t *testing.T) {
	for _, u := range shapes() {
		s, e := encodes(t, u)
		if e != api.OK {
			t.Error("Encode", e)
		}
		if back, e := decodes(t, s); e != api.OK || !slices.Equal(back.Spent, u.Spent) {
			t.Error("Decode of Encode", e)
		}
	}
}

// Promise 16.5: MaxBlock coins may be, one more may not, whatever they are.
func TestEncodeMany(t *testing.T) {
	most := api.Undo{Spent: slices.Repeat([]api.Coin{plain(1, 2)}, 8192)}
	s, e := encodes(t, most)
	if back, told := decodes(t, s); e != api.OK || told != api.OK || len(back.Spent) != 8192 {
		t.Error("Encode and Decode of MaxBlock coins", e, told)
	}
	most.Spent[0].Height = -1
	if _, e := encodes(t, most); e != api.ErrArg {
		t.Error("Encode of MaxBlock coins, one of which is wrong", e)
	}
	for _, n := range []int{8193, 10000, 65536} {
		u := api.Undo{Spent: slices.Repeat([]api.Coin{plain(1, 2)}, n)}
		if _, e := encodes(t, u); e != api.ErrMany {
			t.Error("Encode of", n, e)
		}
		u.Spent[0].Height, u.Spent[1].Out.Lock = -1, strings.Repeat("l", 521)
		if _, e := encodes(t, u); e != api.ErrMany {
			t.Error("Encode of", n, "with wrong ones", e)
		}
		decodeFails(t, "too many", count(uint64(n))+strings.Repeat(coinText(plain(1, 2)), n), api.ErrMore)
		decodeFails(t, "too many, and cut", count(uint64(n)), api.ErrMore)
	}
}

// Promise 16.5: what is wrong at each place; of two wrong coins the first one is told, of two faults of a coin its lock.
func TestEncodeWrong(t *testing.T) {
	script := func(c *api.Coin) { c.Out.Lock = strings.Repeat("l", 521) }
	wrong := []struct {
		spoil func(c *api.Coin)
		want  api.Errno
	}{
		{script, api.ErrScript},
		{func(c *api.Coin) { c.Out.Lock = strings.Repeat("l", 70000) }, api.ErrScript},
		{func(c *api.Coin) { c.Height = -1 }, api.ErrArg},
		{func(c *api.Coin) { c.Height = math.MinInt }, api.ErrArg},
		{func(c *api.Coin) { c.Height = 1 << 31 }, api.ErrArg},
		{func(c *api.Coin) { c.Height = 1<<32 + 5 }, api.ErrArg},
		{func(c *api.Coin) { c.Height = math.MaxInt }, api.ErrArg},
		{func(c *api.Coin) { c.Height = -1; script(c) }, api.ErrScript},
		{func(c *api.Coin) { script(c); c.Height = 1 << 31 }, api.ErrScript},
	}
	for place := range 4 {
		for _, x := range wrong {
			u := api.Undo{Spent: []api.Coin{plain(1, 1), plain(2, 2), plain(3, 3), plain(4, 4)}}
			x.spoil(&u.Spent[place])
			if s, e := encodes(t, u); s != "" || e != x.want {
				t.Error("Encode of a wrong one at", place, e, "not", x.want)
			}
			for behind := place + 1; behind < 4; behind++ {
				for _, y := range wrong {
					two := api.Undo{Spent: slices.Clone(u.Spent)}
					y.spoil(&two.Spent[behind])
					if s, e := encodes(t, two); s != "" || e != x.want {
						t.Error("Encode of wrong ones at", place, behind, e, "not", x.want)
					}
				}
			}
		}
	}
}

// Promise 16.5: texts cut at each place, with one byte changed, with bytes behind them.
func TestDecodeChanged(t *testing.T) {
	lots := rand.New(rand.NewSource(165))
	for _, u := range shapes() {
		s, _ := wantEncode(u)
		for n := range s {
			if n > 600 && n < len(s)-30 && n%29 != 0 {
				continue // the midst of long texts is alike
			}
			decodeFails(t, "a beginning", s[:n], api.ErrCut)
			for _, with := range []byte{0, 1, 2, s[n] + 1, s[n] - 1, 0x7f, 0x80, 252, 253, 254, 255, byte(lots.Intn(256))} {
				decodes(t, s[:n]+string([]byte{with})+s[n+1:])
			}
		}
		for _, more := range []string{"\x00", "\x01", "\xff", s, zeros(14)} {
			decodeFails(t, "more", s+more, api.ErrMore)
		}
	}
}

// Promise 16.5: each part that is wrong; of two the first one is told.
func TestDecodeParts(t *testing.T) {
	good := coinText(plain(7, 8))
	for _, x := range []struct {
		what, s string
		want    api.Errno
	}{
		{"nothing", "", api.ErrCut},
		{"none", "\x00", api.OK},
		{"a count that is not short", "\xfd\x01\x00" + good, api.ErrForm},
		{"a count that is cut", "\xfd\x01", api.ErrCut},
		{"a great count", "\xff\xff\xff\xff\xff\xff\xff\xff\xff", api.ErrMore},
		{"a great count that is not short", "\xff\xff\xff\xff\xff\x00\x00\x00\x00", api.ErrForm},
		{"a count of 8192, and cut", "\xfd\x00\x20" + good, api.ErrCut},
		{"a count of 8193, and cut", "\xfd\x01\x20" + good, api.ErrMore},
		{"a height of 2^31 - 1", "\x01\xff\xff\xff\x7f" + good[4:], api.OK},
		{"a height of 2^31", "\x01\x00\x00\x00\x80" + good[4:], api.ErrMore},
		{"a height of 2^31 at the second one", "\x02" + good + "\x00\x00\x00\x80" + good[4:], api.ErrMore},
		{"a height of 2^32 - 1, and cut", "\x01\xff\xff\xff\xff", api.ErrMore},
		{"a height that is cut", "\x01\xff\xff\xff", api.ErrCut},
		{"a great height, and a coinbase of 2", "\x01\xff\xff\xff\xff\x02" + good[5:], api.ErrMore},
		{"a coinbase of 2", "\x01" + good[:4] + "\x02" + good[5:], api.ErrForm},
		{"a coinbase of 255, and cut", "\x01" + good[:4] + "\xff", api.ErrForm},
		{"a coinbase of 2, and a great lock", "\x01" + good[:4] + "\x02" + eight(1) + "\xfd\x09\x02", api.ErrForm},
		{"the greatest value", "\x01" + good[:5] + eight(math.MaxUint64) + "\x00", api.OK},
		{"a value that is cut", "\x01" + good[:5] + eight(1)[:7], api.ErrCut},
		{"a lock of 520", "\x01" + good[:13] + "\xfd\x08\x02" + zeros(520), api.OK},
		{"a lock of 521", "\x01" + good[:13] + "\xfd\x09\x02" + zeros(521), api.ErrMore},
		{"a lock of 521, and cut", "\x01" + good[:13] + "\xfd\x09\x02", api.ErrMore},
		{"a lock of 520, cut", "\x01" + good[:13] + "\xfd\x08\x02" + zeros(519), api.ErrCut},
		{"a lock whose count is not short", "\x01" + good[:13] + "\xfd\x01\x00x", api.ErrForm},
		{"a lock whose count is cut", "\x01" + good[:13] + "\xfe\x01", api.ErrCut},
		{"no lock", "\x01" + good[:13], api.ErrCut},
		{"a coin more", "\x01" + good + good, api.ErrMore},
		{"a coin fewer", "\x02" + good, api.ErrCut},
	} {
		decodeFails(t, x.what, x.s, x.want)
	}
}

// Rule R4: what Decode tells shares no memory, and Encode changes nothing.
func TestUndoMemory(t *testing.T) {
	u := api.Undo{Spent: slices.Grow([]api.Coin{plain(1, 1), plain(2, 2), plain(3, 3)}, 9)}
	keep := slices.Clone(u.Spent)
	s, _ := Encode(u)
	if !slices.Equal(u.Spent, keep) || u.Spent[:4][3] != (api.Coin{}) {
		t.Error("Encode changes what it was handed")
	}
	a, _ := Decode(s)
	b, _ := Decode(s)
	clear(a.Spent[:cap(a.Spent)])
	if !slices.Equal(b.Spent, keep) {
		t.Error("two undos share memory")
	}
}
