package sip

import (
	"encoding/binary"
	"math/big"
	"math/bits"
	"math/rand"
	"strings"
	"testing"

	"bedrock/api"
)

// keysOfBytes is the keys whose sixteen bytes are 0 to 15.
func keysOfBytes() api.Keys {
	return api.Keys{K0: 0x0706050403020100, K1: 0x0f0e0d0c0b0a0908}
}

// bytesFrom0 is n bytes that count from 0 on.
func bytesFrom0(n int) string {
	all := make([]byte, n)
	for i := range all {
		all[i] = byte(i)
	}
	return string(all)
}

// someText is n bytes by lots.
func someText(lots *rand.Rand, n int) string {
	all := make([]byte, n)
	lots.Read(all)
	return string(all)
}

// someKeys is keys by lots.
func someKeys(lots *rand.Rand) api.Keys { return api.Keys{K0: lots.Uint64(), K1: lots.Uint64()} }

// edges is lengths of texts about the ends of words and of the length's byte.
func edges() []int {
	return []int{0, 1, 2, 3, 4, 5, 6, 7, 8, 9, 15, 16, 17, 23, 24, 25, 31, 32, 33, 63, 64, 65, 127, 128, 129, 247, 248, 249, 254, 255, 256, 257, 263, 264, 265, 511, 512, 513, 1000, 4096, 65535, 65536}
}

// wantHash is SipHash-2-4 by the chapter's words, over a whole text that is laid out ahead.
func wantHash(k api.Keys, s string) uint64 {
	padded := []byte(s)
	for len(padded)%8 != 7 {
		padded = append(padded, 0)
	}
	padded = append(padded, byte(len(s)%256))
	v0, v1 := k.K0^0x736f6d6570736575, k.K1^0x646f72616e646f6d
	v2, v3 := k.K0^0x6c7967656e657261, k.K1^0x7465646279746573
	for ; len(padded) > 0; padded = padded[8:] {
		m := binary.LittleEndian.Uint64(padded)
		v3 ^= m
		v0, v1, v2, v3 = wantRound(v0, v1, v2, v3)
		v0, v1, v2, v3 = wantRound(v0, v1, v2, v3)
		v0 ^= m
	}
	v2 ^= 0xff
	for range 4 {
		v0, v1, v2, v3 = wantRound(v0, v1, v2, v3)
	}
	return v0 ^ v1 ^ v2 ^ v3
}

// wantRound is a round, the two halves of each of its two steps beside one another.
func wantRound(v0, v1, v2, v3 uint64) (uint64, uint64, uint64, uint64) {
	left := func(n uint64, by int) uint64 { return n<<by | n>>(64-by) }
	v0, v2 = v0+v1, v2+v3
	v1, v3 = left(v1, 13)^v0, left(v3, 16)^v2
	v0 = left(v0, 32)
	v0, v2 = v0+v3, v2+v1
	v3, v1 = left(v3, 21)^v0, left(v1, 17)^v2
	v2 = left(v2, 32)
	return v0, v1, v2, v3
}

// publishedSums is what the authors of SipHash published for keysOfBytes and the texts of 0 to 63 bytes that count from 0 on.
func publishedSums() []uint64 {
	return []uint64{
		0x726fdb47dd0e0e31, 0x74f839c593dc67fd, 0x0d6c8009d9a94f5a, 0x85676696d7fb7e2d,
		0xcf2794e0277187b7, 0x18765564cd99a68d, 0xcbc9466e58fee3ce, 0xab0200f58b01d137,
		0x93f5f5799a932462, 0x9e0082df0ba9e4b0, 0x7a5dbbc594ddb9f3, 0xf4b32f46226bada7,
		0x751e8fbc860ee5fb, 0x14ea5627c0843d90, 0xf723ca908e7af2ee, 0xa129ca6149be45e5,
		0x3f2acc7f57c29bdb, 0x699ae9f52cbe4794, 0x4bc1b3f0968dd39c, 0xbb6dc91da77961bd,
		0xbed65cf21aa2ee98, 0xd0f2cbb02e3b67c7, 0x93536795e3a33e88, 0xa80c038ccd5ccec8,
		0xb8ad50c6f649af94, 0xbce192de8a85b8ea, 0x17d835b85bbb15f3, 0x2f2e6163076bcfad,
		0xde4daaaca71dc9a5, 0xa6a2506687956571, 0xad87a3535c49ef28, 0x32d892fad841c342,
		0x7127512f72f27cce, 0xa7f32346f95978e3, 0x12e0b01abb051238, 0x15e034d40fa197ae,
		0x314dffbe0815a3b4, 0x027990f029623981, 0xcadcd4e59ef40c4d, 0x9abfd8766a33735c,
		0x0e3ea96b5304a7d0, 0xad0c42d6fc585992, 0x187306c89bc215a9, 0xd4a60abcf3792b95,
		0xf935451de4f21df2, 0xa9538f0419755787, 0xdb9acddff56ca510, 0xd06c98cd5c0975eb,
		0xe612a3cb9ecba951, 0xc766e62cfcadaf96, 0xee64435a9752fe72, 0xa192d576b245165a,
		0x0a8787bf8ecb74b2, 0x81b3e73d20b49b6f, 0x7fa8220ba3b2ecea, 0x245731c13ca42499,
		0xb78dbfaf3a8d83bd, 0xea1ad565322a1a0b, 0x60e61c23a3795013, 0x6606d7e446282b93,
		0x6ca4ecb15c5f91e1, 0x9f626da15c9625f3, 0xe51b38608ef25f57, 0x958a324ceb064572,
	}
}

// Promise 3.1 and the chapter's example: the sums that were published, the first two of them the example's.
func TestHashPublished(t *testing.T) {
	for n, want := range publishedSums() {
		if got := Hash(keysOfBytes(), bytesFrom0(n)); got != want {
			t.Errorf("%d bytes: %016x, not %016x", n, got, want)
		}
	}
}

// Promise 3.1: texts of all lengths about the edges, by many keys.
func TestHashEdges(t *testing.T) {
	lots := rand.New(rand.NewSource(1))
	for _, n := range edges() {
		for _, s := range []string{someText(lots, n), strings.Repeat("\x00", n), strings.Repeat("\xff", n)} {
			for _, k := range []api.Keys{{}, {K0: 1}, {K1: 1}, {K0: 1<<64 - 1, K1: 1<<64 - 1}, keysOfBytes(), someKeys(lots)} {
				if got, want := Hash(k, s), wantHash(k, s); got != want {
					t.Fatalf("%x, %d bytes: %016x, not %016x", k, n, got, want)
				}
			}
		}
	}
}

// Promise 3.1: bytes that are no text in UTF-8 are bytes like others.
func TestHashEveryByte(t *testing.T) {
	for b := range 256 {
		for _, n := range []int{1, 8, 11} {
			s := strings.Repeat(string([]byte{byte(b)}), n)
			if got, want := Hash(keysOfBytes(), s), wantHash(keysOfBytes(), s); got != want {
				t.Fatalf("%x: %016x, not %016x", s, got, want)
			}
		}
	}
}

// unround is the four words of which a round makes these.
func unround(v [4]uint64) [4]uint64 {
	v[2] = bits.RotateLeft64(v[2], -32)
	v[1] = bits.RotateLeft64(v[1]^v[2], -17)
	v[2] -= v[1]
	v[3] = bits.RotateLeft64(v[3]^v[0], -21)
	v[0] -= v[3]
	v[3] = bits.RotateLeft64(v[3]^v[2], -16)
	v[2] -= v[3]
	v[0] = bits.RotateLeft64(v[0], -32)
	v[1] = bits.RotateLeft64(v[1]^v[0], -13)
	v[0] -= v[1]
	return v
}

// Promise 3.1: a round, by its words one after another and gone back; what is handed in stays.
func TestRound(t *testing.T) {
	lots := rand.New(rand.NewSource(2))
	most := uint64(1<<64 - 1)
	all := [][4]uint64{{}, {1}, {0, 1}, {0, 0, 1}, {0, 0, 0, 1}, {most, most, most, most}, {1 << 63, 1 << 63, 1 << 63, 1 << 63}, {most, 1, most, 1}}
	for range 1000 {
		all = append(all, [4]uint64{lots.Uint64(), lots.Uint64(), lots.Uint64(), lots.Uint64()})
	}
	for _, v := range all {
		was := v
		got := Round(v)
		var want [4]uint64
		want[0], want[1], want[2], want[3] = wantRound(v[0], v[1], v[2], v[3])
		if got != want || unround(got) != v || v != was {
			t.Fatalf("%x: %x, not %x", v, got, want)
		}
	}
	// worked out by hand: of one bit in v1, what each step leaves
	if got, want := Round([4]uint64{0, 1, 0, 0}), [4]uint64{1 << 32, (1<<13 | 1) ^ 1<<30 ^ 1<<17, (1<<13 | 1) << 32, 1 << 32}; got != want {
		t.Errorf("%x, not %x", got, want)
	}
}

// Promise 3.2: Hash modulo parts.
func TestPart(t *testing.T) {
	lots := rand.New(rand.NewSource(3))
	for _, parts := range []int{1, 2, 3, 64, 256, 1000, 1 << 16, 1<<30 + 1, 1<<31 - 2, 1<<31 - 1} {
		for range 50 {
			k, s := someKeys(lots), someText(lots, lots.Intn(40))
			hash := new(big.Int).SetUint64(wantHash(k, s))
			want := int(hash.Mod(hash, big.NewInt(int64(parts))).Int64())
			if got, e := Part(k, s, parts); got != want || e != api.OK {
				t.Fatalf("%x %x of %d: %d %d, not %d", k, s, parts, got, e, want)
			}
		}
	}
	if got, e := Part(keysOfBytes(), "", 1); got != 0 || e != api.OK {
		t.Errorf("of one part: %d %d", got, e)
	}
	if got, e := Part(keysOfBytes(), "", 1000); got != 0x726fdb47dd0e0e31%1000 || e != api.OK {
		t.Errorf("of 1000 parts: %d %d", got, e)
	}
}

// Promise 3.2: parts that may not be.
func TestPartWrong(t *testing.T) {
	for _, parts := range []int{0, -1, -2, -1000, -1 << 31, -1 << 63, 1 << 31, 1<<31 + 1, 1 << 32, 1<<32 + 1, 1<<63 - 1} {
		for _, s := range []string{"", "a", bytesFrom0(100)} {
			if got, e := Part(keysOfBytes(), s, parts); got != 0 || e != api.ErrArg {
				t.Errorf("%d parts: %d %d", parts, got, e)
			}
		}
	}
}
