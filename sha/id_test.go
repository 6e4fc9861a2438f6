package sha

import (
	"math/big"
	"math/rand"
	"slices"
	"strings"
	"testing"

	"bedrock/api"
)

// rising is the hash with the bytes 1, 2 .. 32.
func rising() api.Hash {
	var h api.Hash
	for i := range h {
		h[i] = byte(i + 1)
	}
	return h
}

// Promise 2.3: the bytes from the last to the first, of each the higher half first; and back.
func TestText(t *testing.T) {
	for want, h := range map[string]api.Hash{
		strings.Repeat("0", 64):                                            {},
		strings.Repeat("0", 62) + "01":                                     {0: 1},
		strings.Repeat("0", 62) + "a0":                                     {0: 0xa0},
		"fe" + strings.Repeat("0", 62):                                     {31: 0xfe},
		"0f" + strings.Repeat("0", 60) + "f0":                              {0: 0xf0, 31: 0x0f},
		"201f1e1d1c1b1a191817161514131211100f0e0d0c0b0a090807060504030201": rising(),
		"55b852781b9995a44c939b64e441ae2724b96f99c8f4fb9a141cfc9842c4b0e3": wantSum(""),
	} {
		if got := Text(h); got != want {
			t.Errorf("Text(%x) = %q", h, got)
		}
		if got, at, e := Parse(want); got != h || at != 0 || e != api.OK {
			t.Errorf("Parse(%q) = %x, %d, %d", want, got, at, e)
		}
	}
}

// checkNoID asks for ErrHash at a place.
func checkNoID(t *testing.T, s string, want int) {
	t.Helper()
	if h, at, e := Parse(s); h != (api.Hash{}) || at != want || e != api.ErrHash {
		t.Errorf("Parse(%q) = %x, %d, %d, not at %d", s, h, at, e, want)
	}
}

// Promise 2.3: each length that is too short, and several that are too long.
func TestParseLengths(t *testing.T) {
	good := Text(rising())
	for n := range 64 {
		checkNoID(t, good[:n], n)
	}
	for _, behind := range []string{"0", "f", "g", "F", "\n", " ", "\x00", "00", "0g", "g0", good, strings.Repeat("f", 1000)} {
		checkNoID(t, good+behind, 64)
	}
}

// Promise 2.3: a byte that is no digit, at every place, of texts that are too short, too long and neither.
func TestParseBytes(t *testing.T) {
	good := Text(rising())
	for at := range 64 {
		for _, wrong := range []string{"g", "G", "A", "F", "/", ":", "`", "@", " ", "-", "x", "\x00", "\xff", "\x80"} {
			checkNoID(t, good[:at]+wrong+good[at+1:], at)
			checkNoID(t, good[:at]+wrong, at)
			checkNoID(t, good[:at]+wrong+good, at)
			checkNoID(t, good[:at]+wrong+strings.Repeat("?", 100), at)
		}
	}
	checkNoID(t, "0g", 1)
	checkNoID(t, "0x"+good[2:], 1)
	checkNoID(t, " "+good, 0)
	checkNoID(t, strings.ToUpper(good), 3)
	checkNoID(t, good[:40]+"\xc3\xa9"+good[42:], 40)
}

// Promise 2.3: of all bytes just the sixteen small digits are digits, at the first, a middle and the last place.
func TestParseEachByte(t *testing.T) {
	for b := range 256 {
		c := string([]byte{byte(b)})
		value := strings.Index("0123456789abcdef", c)
		for _, at := range []int{0, 31, 32, 63} {
			s := strings.Repeat("0", at) + c + strings.Repeat("0", 63-at)
			if value < 0 {
				checkNoID(t, s, at)
				continue
			}
			var want api.Hash
			want[31-at/2] = byte(value << (4 - at%2*4))
			if h, place, e := Parse(s); h != want || place != 0 || e != api.OK {
				t.Errorf("Parse(%q) = %x, %d, %d", s, h, place, e)
			}
		}
	}
}

// Promise 2.3: Zero, with each bit of the hash alone.
func TestZero(t *testing.T) {
	if !Zero(api.Hash{}) {
		t.Error("32 zeros are not zero")
	}
	for i := range 32 {
		for bit := range 8 {
			var h api.Hash
			h[i] = 1 << bit
			if Zero(h) {
				t.Errorf("a hash with the bit %d of the byte %d is zero", bit, i)
			}
		}
	}
	if Zero(rising()) || Zero(wantSum("")) {
		t.Error("a hash of many bytes is zero")
	}
}

// asNumber is a hash as a number whose lowest byte is the first.
func asNumber(h api.Hash) *big.Int {
	raw := h[:]
	slices.Reverse(raw)
	return new(big.Int).SetBytes(raw)
}

// Promise 2.3: hashes are held against each other as numbers.
func TestCompare(t *testing.T) {
	for _, x := range []struct {
		a, b api.Hash
		want int
	}{
		{api.Hash{}, api.Hash{}, 0},
		{rising(), rising(), 0},
		{api.Hash{0: 1}, api.Hash{}, 1},
		{api.Hash{31: 1}, api.Hash{0: 255}, 1},
		{api.Hash{0: 255, 1: 1}, api.Hash{0: 1, 1: 2}, -1},
		{api.Hash{15: 7}, api.Hash{16: 1}, -1},
		{api.Hash{31: 128}, api.Hash{31: 127}, 1},
	} {
		if got := Compare(x.a, x.b); got != x.want {
			t.Errorf("Compare(%x, %x) = %d", x.a, x.b, got)
		}
		if got := Compare(x.b, x.a); got != -x.want {
			t.Errorf("Compare(%x, %x) = %d", x.b, x.a, got)
		}
	}
	lots := rand.New(rand.NewSource(8))
	for range 5000 {
		a := api.Hash([]byte(someText(lots, 32)))
		b := a
		b[lots.Intn(32)] = byte(lots.Intn(256))
		b[lots.Intn(32)] = byte(lots.Intn(256))
		if got, want := Compare(a, b), asNumber(a).Cmp(asNumber(b)); got != want {
			t.Fatalf("Compare(%x, %x) = %d, not %d", a, b, got, want)
		}
	}
}

// Promise 2.3: Parse of Text is the id.
func TestTextThereAndBack(t *testing.T) {
	lots := rand.New(rand.NewSource(9))
	for range 2000 {
		h := api.Hash([]byte(someText(lots, 32)))
		if got, at, e := Parse(Text(h)); got != h || at != 0 || e != api.OK {
			t.Fatalf("Parse(Text(%x)) = %x, %d, %d", h, got, at, e)
		}
	}
}
