package num

import (
	"encoding/hex"
	"math/big"
	"math/rand"
	"slices"
	"strings"
	"testing"

	"bedrock/api"
)

// allBytes is each byte once, in order.
func allBytes() string {
	raw := make([]byte, 256)
	for i := range raw {
		raw[i] = byte(i)
	}
	return string(raw)
}

// someHash is a hash of lots.
func someHash(lots *rand.Rand) api.Hash {
	var h api.Hash
	for i := range h {
		h[i] = byte(lots.Intn(256))
	}
	return h
}

// rising is the hash with the bytes 1, 2 .. 32.
func rising() api.Hash {
	var h api.Hash
	for i := range h {
		h[i] = byte(i + 1)
	}
	return h
}

// Promise 1.2: two small digits for each byte, in order.
func TestHex(t *testing.T) {
	for s, want := range map[string]string{
		"":             "",
		"\x00":         "00",
		"\x0f":         "0f",
		"\xf0":         "f0",
		"\x9a\xa9":     "9aa9",
		"\xde\xad\xbe": "deadbe",
		"abc":          "616263",
		allBytes():     hex.EncodeToString([]byte(allBytes())),
	} {
		if got := Hex(s); got != want {
			t.Errorf("Hex(%x) = %q", s, got)
		}
	}
}

// Promise 1.2: the bytes; there is no place where there is no fault.
func TestUnhexGood(t *testing.T) {
	for s, want := range map[string]string{
		"":                 "",
		"00":               "\x00",
		"0f":               "\x0f",
		"f0":               "\xf0",
		"0123456789abcdef": "\x01\x23\x45\x67\x89\xab\xcd\xef",
		"fedcba9876543210": "\xfe\xdc\xba\x98\x76\x54\x32\x10",
	} {
		if got, at, e := Unhex(s); got != want || at != 0 || e != api.OK {
			t.Errorf("Unhex(%q) = %x, %d, %d", s, got, at, e)
		}
	}
}

// Promise 1.2: the place of the first byte that is no small digit, or the length, if it is odd.
func TestUnhexBad(t *testing.T) {
	for s, want := range map[string]int{
		"0":                            1,
		"abc":                          3,
		"abcde":                        5,
		"g":                            0,
		"0g":                           1,
		"g0":                           0,
		"00g":                          2,
		"00gg":                         2,
		"0g0g":                         1,
		"A0":                           0,
		"0A":                           1,
		"aF":                           1,
		"00 0":                         2,
		"0x00":                         1,
		"-1":                           0,
		"00\n":                         2,
		"00\x00":                       2,
		"ab\xc3\xa9":                   2,
		strings.Repeat("0", 101):       101,
		strings.Repeat("0", 100) + "G": 100,
	} {
		if got, at, e := Unhex(s); got != "" || at != want || e != api.ErrHex {
			t.Errorf("Unhex(%q) = %x, %d, %d", s, got, at, e)
		}
	}
}

// Promise 1.2: of all bytes just the sixteen small digits are digits, at both places of a pair and in Parse.
func TestEachDigit(t *testing.T) {
	for b := range 256 {
		c := string([]byte{byte(b)})
		value := strings.Index("0123456789abcdef", c)
		high, place0, e0 := Unhex(c + "0")
		low, place1, e1 := Unhex("0" + c)
		h, placeH, eH := Parse(strings.Repeat("0", 40) + c + strings.Repeat("0", 23))
		if value < 0 {
			if high != "" || place0 != 0 || e0 != api.ErrHex || low != "" || place1 != 1 || e1 != api.ErrHex {
				t.Errorf("byte %d: %x %d %d, %x %d %d", b, high, place0, e0, low, place1, e1)
			}
			if h != (api.Hash{}) || placeH != 40 || eH != api.ErrHex {
				t.Errorf("byte %d: Parse %x %d %d", b, h, placeH, eH)
			}
			continue
		}
		if high != string([]byte{byte(value << 4)}) || place0 != 0 || e0 != api.OK || low != string([]byte{byte(value)}) || place1 != 0 || e1 != api.OK {
			t.Errorf("digit %q: %x %d %d, %x %d %d", c, high, place0, e0, low, place1, e1)
		}
		if h != (api.Hash{11: byte(value << 4)}) || placeH != 0 || eH != api.OK {
			t.Errorf("digit %q: Parse %x %d %d", c, h, placeH, eH)
		}
	}
}

// Promise 1.2: the bytes of a hash from the last to the first.
func TestText(t *testing.T) {
	for want, h := range map[string]api.Hash{
		strings.Repeat("0", 64):                                            {},
		strings.Repeat("0", 62) + "01":                                     {0: 1},
		strings.Repeat("0", 62) + "a0":                                     {0: 0xa0},
		"fe" + strings.Repeat("0", 62):                                     {31: 0xfe},
		strings.Repeat("0", 60) + "0201":                                   {0: 1, 1: 2},
		"201f1e1d1c1b1a191817161514131211100f0e0d0c0b0a090807060504030201": rising(),
	} {
		if got := Text(h); got != want {
			t.Errorf("Text(%x) = %q", h, got)
		}
		if got, at, e := Parse(want); got != h || at != 0 || e != api.OK {
			t.Errorf("Parse(%q) = %x, %d, %d", want, got, at, e)
		}
	}
}

// Promise 1.2: the first place at which a text is no hash's.
func TestParseBad(t *testing.T) {
	good := Text(rising())
	for s, want := range map[string]int{
		"":                                 0,
		"0":                                1,
		"00":                               2,
		"0g":                               1,
		"0G":                               1,
		"g":                                0,
		good[:31]:                          31,
		good[:32]:                          32,
		good[:62]:                          62,
		good[:63]:                          63,
		good[:62] + "g":                    62,
		good[:63] + "g":                    63,
		good[:63] + "F":                    63,
		"x" + good[1:]:                     0,
		"A" + good[1:]:                     0,
		good + "0":                         64,
		good + "00":                        64,
		good + "g":                         64,
		good + "0g":                        64,
		good + good:                        64,
		good[:63] + "g0":                   63,
		good[:10] + "-" + good:             10,
		" " + good:                         0,
		good + "\n":                        64,
		good[:50] + "\xff" + good[51:]:     50,
		good[:20] + "A" + good[20:]:        20,
		strings.Repeat("f", 1000):          64,
		strings.Repeat("f", 1000) + "\x00": 64,
	} {
		if h, at, e := Parse(s); h != (api.Hash{}) || at != want || e != api.ErrHex {
			t.Errorf("Parse(%q) = %x, %d, %d, not at %d", s, h, at, e, want)
		}
	}
}

// asNumber is a hash as a number whose first byte is the lowest.
func asNumber(h api.Hash) *big.Int {
	raw := h[:]
	slices.Reverse(raw)
	return new(big.Int).SetBytes(raw)
}

// Promise 1.2: hashes are held against each other as numbers whose first byte is the lowest.
func TestCompare(t *testing.T) {
	for _, x := range []struct {
		a, b api.Hash
		want int
	}{
		{api.Hash{}, api.Hash{}, 0},
		{rising(), rising(), 0},
		{api.Hash{0: 1}, api.Hash{}, 1},
		{api.Hash{31: 1}, api.Hash{0: 255}, 1},
		{api.Hash{0: 255, 1: 1}, api.Hash{0: 1, 1: 2}, -1},
		{api.Hash{15: 7}, api.Hash{16: 1}, -1},
		{api.Hash{31: 128}, api.Hash{31: 127}, 1},
		{api.Hash{0: 128}, api.Hash{0: 127}, 1},
	} {
		if got := Compare(x.a, x.b); got != x.want {
			t.Errorf("Compare(%x, %x) = %d", x.a, x.b, got)
		}
		if got := Compare(x.b, x.a); got != -x.want {
			t.Errorf("Compare(%x, %x) = %d", x.b, x.a, got)
		}
	}
	lots := rand.New(rand.NewSource(3))
	for range 5000 {
		a := someHash(lots)
		b := a
		b[lots.Intn(32)] = byte(lots.Intn(256))
		b[lots.Intn(32)] = byte(lots.Intn(256))
		if got, want := Compare(a, b), asNumber(a).Cmp(asNumber(b)); got != want {
			t.Fatalf("Compare(%x, %x) = %d, not %d", a, b, got, want)
		}
	}
}

// Promise 1.5: Parse of Text is the hash, Unhex of Hex is the bytes.
func TestTextsThereAndBack(t *testing.T) {
	lots := rand.New(rand.NewSource(4))
	for range 2000 {
		h := someHash(lots)
		if got, at, e := Parse(Text(h)); got != h || at != 0 || e != api.OK {
			t.Fatalf("Parse(Text(%x)) = %x, %d, %d", h, got, at, e)
		}
		raw := make([]byte, lots.Intn(100))
		for i := range raw {
			raw[i] = byte(lots.Intn(256))
		}
		if got, at, e := Unhex(Hex(string(raw))); got != string(raw) || at != 0 || e != api.OK {
			t.Fatalf("Unhex(Hex(%x)) = %x, %d, %d", raw, got, at, e)
		}
	}
	if got, at, e := Unhex(Hex(allBytes())); got != allBytes() || at != 0 || e != api.OK {
		t.Errorf("all bytes: %x, %d, %d", got, at, e)
	}
}
