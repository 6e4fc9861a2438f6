package sha

import (
	"crypto/sha256"
	"encoding/hex"
	"math/rand"
	"strings"
	"testing"

	"bedrock/api"
)

// someText is n bytes of lots.
func someText(lots *rand.Rand, n int) string {
	raw := make([]byte, n)
	for i := range raw {
		raw[i] = byte(lots.Intn(256))
	}
	return string(raw)
}

// edges is the lengths at both sides of each edge of the padding and of a block, and some greater ones.
func edges() []int {
	return []int{0, 1, 2, 3, 4, 31, 32, 54, 55, 56, 57, 62, 63, 64, 65, 66, 118, 119, 120, 121, 127, 128, 129, 183, 184, 191, 192, 193, 255, 256, 257, 1000, 4095, 4096, 4097}
}

// wantSum is the sum by the library.
func wantSum(s string) api.Hash { return sha256.Sum256([]byte(s)) }

// fromHex is the hash of 64 digits, byte by byte.
func fromHex(t *testing.T, s string) api.Hash {
	raw, err := hex.DecodeString(s)
	if err != nil || len(raw) != len(api.Hash{}) {
		t.Fatalf("%q is no hash byte by byte", s)
	}
	return api.Hash(raw)
}

// Promise 2.1: the sums that are published, the chapter's examples among them.
func TestSumPublished(t *testing.T) {
	for s, want := range map[string]string{
		"":    "e3b0c44298fc1c149afbf4c8996fb92427ae41e4649b934ca495991b7852b855",
		"abc": "ba7816bf8f01cfea414140de5dae2223b00361a396177a9cb410ff61f20015ad",
		"abcdbcdecdefdefgefghfghighijhijkijkljklmklmnlmnomnopnopq":                                                         "248d6a61d20638b8e5c026930c3e6039a33ce45964ff2167f6ecedd419db06c1",
		"abcdefghbcdefghicdefghijdefghijkefghijklfghijklmghijklmnhijklmnoijklmnopjklmnopqklmnopqrlmnopqrsmnopqrstnopqrstu": "cf5b16a778af8380036ce59e7b0492370b249b11e8f07a51afac45037afee9d1",
		"\xbd":                       "68325720aabd7c82f30f554b313d0570c95accbb7dc4b5aae11204c08ffe732b",
		"\xc9\x8c\x8e\x55":           "7abc22c0ae5af26ce93dbb94433a0e0b2e119d014f8e7f65bd56c61ccccd9504",
		strings.Repeat("\x00", 55):   "02779466cdec163811d078815c633f21901413081449002f24aa3e80f0b88ef7",
		strings.Repeat("\x00", 56):   "d4817aa5497628e7c77e6b606107042bbba3130888c5f47a375e6179be789fbb",
		strings.Repeat("\x00", 64):   "f5a5fd42d16a20302798ef6ed309979b43003d2320d9f0e8ea9831a92759fb4b",
		strings.Repeat("\x00", 1000): "541b3e9daa09b20bf85fa273e5cbd3e80185aa4ec298e765db87742b70138a53",
		strings.Repeat("a", 1000000): "cdc76e5c9914fb9281a1c7e284d73e67f1809a48a497200e046d39ccc7112cd0",
	} {
		if got := Sum(s); got != fromHex(t, want) {
			t.Errorf("Sum of %d bytes = %x, not %s", len(s), got, want)
		}
	}
}

// Promise 2.1: texts of all lengths about the edges, of one byte and of lots, against the library's sums.
func TestSumOfMany(t *testing.T) {
	lots := rand.New(rand.NewSource(1))
	check := func(s string) {
		if got := Sum(s); got != wantSum(s) {
			t.Fatalf("Sum(%x) = %x", s, got)
		}
		once := wantSum(s)
		if got := Twice(s); got != wantSum(string(once[:])) {
			t.Fatalf("Twice(%x) = %x", s, got)
		}
	}
	for n := range 400 {
		check(someText(lots, n))
		check(strings.Repeat("\x00", n))
		check(strings.Repeat("\x80", n))
		check(strings.Repeat("\xff", n))
	}
	for _, n := range edges() {
		check(someText(lots, n))
	}
	for range 200 {
		check(someText(lots, lots.Intn(20000)))
	}
}

// Promise 2.1: digests that are known from elsewhere: of no bytes, of "hello", and of a header of 80 bytes.
func TestTwicePublished(t *testing.T) {
	head, err := hex.DecodeString("01000000" + strings.Repeat("00", 32) + "3ba3edfd7a7b12b27ac72c3e67768f617fc81bc3888a51323a9fb8aa4b1e5e4a" + "29ab5f49" + "ffff001d" + "1dac2b7c")
	if err != nil {
		t.Fatal(err)
	}
	for s, want := range map[string]string{
		"":           "5df6e0e2761359d30a8275058e299fcc0381534545f55cf43e41983f5d4c9456",
		"hello":      "9595c9df90075148eb06860365df33584b75bff782a510c6cd4883a419833d50",
		string(head): "6fe28c0ab6f1b372c1a6a246ae63f74f931e8365e15a089c68d6190000000000",
	} {
		if got := Twice(s); got != fromHex(t, want) {
			t.Errorf("Twice(%x) = %x, not %s", s, got, want)
		}
	}
	if got, want := Text(Twice(string(head))), "000000000019d6689c085ae165831e934ff763ae46a2a6c172b3f1b60a8ce26f"; got != want {
		t.Errorf("the header's id = %q, not %q", got, want)
	}
}
