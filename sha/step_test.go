package sha

import (
	"encoding/binary"
	"math"
	"math/big"
	"math/rand"
	"strings"
	"testing"

	"bedrock/api"
)

// primes is the first n primes.
func primes(n int) []int64 {
	var found []int64
	for c := int64(2); len(found) < n; c++ {
		if big.NewInt(c).ProbablyPrime(0) {
			found = append(found, c)
		}
	}
	return found
}

// rootBits is the first 32 bits behind the point of the root of a prime (to the power of 2 or 3): the greatest whole number whose power is at most the prime times 2^(32 power), without what stands ahead of the point.
func rootBits(prime int64, power int64) uint32 {
	most := new(big.Int).Lsh(big.NewInt(prime), uint(32*power))
	root := new(big.Int)
	for bit := 40; bit >= 0; bit-- {
		tried := new(big.Int).SetBit(root, bit, 1)
		if new(big.Int).Exp(tried, big.NewInt(power), nil).Cmp(most) <= 0 {
			root = tried
		}
	}
	return uint32(root.Uint64())
}

// Promise 2.1: the state at first, and the words of the rounds, by what they are said to be.
func TestConstants(t *testing.T) {
	for i, p := range primes(8) {
		if got, want := First()[i], rootBits(p, 2); got != want {
			t.Errorf("word %d of the state at first: %08x, not %08x", i, got, want)
		}
	}
	for i, p := range primes(64) {
		if got, want := rounds[i], rootBits(p, 3); got != want {
			t.Errorf("K%d: %08x, not %08x", i, got, want)
		}
	}
}

// turnedRight is a word turned to the right.
func turnedRight(x uint32, by int) uint32 { return x>>by | x<<(32-by) }

// wantStep is the state behind a block, in the words of the chapter, one by one.
func wantStep(x api.State, block [64]byte) api.State {
	k := primes(64)
	var w [64]uint32
	for t := range w {
		if t < 16 {
			w[t] = binary.BigEndian.Uint32(block[4*t:])
			continue
		}
		s1 := turnedRight(w[t-2], 17) ^ turnedRight(w[t-2], 19) ^ w[t-2]>>10
		s0 := turnedRight(w[t-15], 7) ^ turnedRight(w[t-15], 18) ^ w[t-15]>>3
		w[t] = s1 + w[t-7] + s0 + w[t-16]
	}
	v := x
	for t := range w {
		a, b, c, d, e, f, g, h := v[0], v[1], v[2], v[3], v[4], v[5], v[6], v[7]
		upper1 := turnedRight(e, 6) ^ turnedRight(e, 11) ^ turnedRight(e, 25)
		upper0 := turnedRight(a, 2) ^ turnedRight(a, 13) ^ turnedRight(a, 22)
		t1 := h + upper1 + ((e & f) ^ (^e & g)) + rootBits(k[t], 3) + w[t]
		t2 := upper0 + ((a & b) ^ (a & c) ^ (b & c))
		v = api.State{t1 + t2, a, b, c, d + t1, e, f, g}
	}
	for i := range v {
		v[i] += x[i]
	}
	return v
}

// Promise 2.1: a step from any state, over any block.
func TestStep(t *testing.T) {
	lots := rand.New(rand.NewSource(2))
	states := []api.State{{}, First(), {math.MaxUint32, math.MaxUint32, math.MaxUint32, math.MaxUint32, math.MaxUint32, math.MaxUint32, math.MaxUint32, math.MaxUint32}}
	for range 12 {
		var x api.State
		for i := range x {
			x[i] = lots.Uint32()
		}
		states = append(states, x)
	}
	texts := []string{strings.Repeat("\x00", 64), strings.Repeat("\xff", 64), Pad(0), "abc" + Pad(3)}
	for range 4 {
		texts = append(texts, someText(lots, 64))
	}
	for _, x := range states {
		for _, s := range texts {
			kept, block := x, [64]byte([]byte(s))
			if got, want := Step(x, block), wantStep(x, block); got != want {
				t.Errorf("Step(%08x, %x) = %08x, not %08x", x, block, got, want)
			}
			if x != kept || string(block[:]) != s {
				t.Errorf("Step changed what was handed in")
			}
		}
	}
}

// Promise 2.1: the state at first is a new one each time.
func TestFirstIsOwn(t *testing.T) {
	x := First()
	x[0]++
	if First() == x {
		t.Error("First was changed by what was handed out")
	}
}

// wantPad is a text's padding: 128, zeros until eight bytes are left, and 8 n in these.
func wantPad(n uint64) string {
	raw := []byte{128}
	for (n%64+uint64(len(raw)))%64 != 56 {
		raw = append(raw, 0)
	}
	bits := new(big.Int).Mul(new(big.Int).SetUint64(n), big.NewInt(8))
	bits.Mod(bits, new(big.Int).Lsh(big.NewInt(1), 64))
	return string(binary.BigEndian.AppendUint64(raw, bits.Uint64()))
}

// Promise 2.1: the padding of small and great lengths, those that are taken modulo 2^61 too.
func TestPad(t *testing.T) {
	for n := range uint64(1000) {
		for _, far := range []uint64{0, 1 << 29, 1 << 32, 1<<61 - 1000, 1 << 61, 1 << 62, 1 << 63, math.MaxUint64 - 999} {
			if got, want := Pad(far+n), wantPad(far+n); got != want {
				t.Fatalf("Pad(%d) = %x, not %x", far+n, got, want)
			}
		}
	}
	for n, want := range map[uint64]string{
		0:                  "\x80" + strings.Repeat("\x00", 63),
		1:                  "\x80" + strings.Repeat("\x00", 61) + "\x08",
		55:                 "\x80\x00\x00\x00\x00\x00\x00\x01\xb8",
		56:                 "\x80" + strings.Repeat("\x00", 69) + "\x01\xc0",
		63:                 "\x80" + strings.Repeat("\x00", 62) + "\x01\xf8",
		64:                 "\x80" + strings.Repeat("\x00", 61) + "\x02\x00",
		0x0123456789abcdef: "\x80" + strings.Repeat("\x00", 8) + "\x09\x1a\x2b\x3c\x4d\x5e\x6f\x78",
		1<<61 - 1:          "\x80" + strings.Repeat("\x00", 56) + "\xff\xff\xff\xff\xff\xff\xff\xf8",
		1 << 61:            "\x80" + strings.Repeat("\x00", 63),
		1<<61 + 55:         "\x80\x00\x00\x00\x00\x00\x00\x01\xb8",
		math.MaxUint64:     "\x80" + strings.Repeat("\x00", 56) + "\xff\xff\xff\xff\xff\xff\xff\xf8",
	} {
		if got := Pad(n); got != want {
			t.Errorf("Pad(%d) = %x, not %x", n, got, want)
		}
	}
}

// Promise 2.6: Step over a padded text from First on comes to its sum.
func TestStepsComeToTheSum(t *testing.T) {
	lots := rand.New(rand.NewSource(3))
	lengths := edges()
	for n := range 200 {
		lengths = append(lengths, n)
	}
	for _, n := range lengths {
		s := someText(lots, n)
		padded := s + Pad(uint64(n))
		if len(padded)%64 != 0 {
			t.Fatalf("a text of %d bytes is padded to %d", n, len(padded))
		}
		x := First()
		for at := 0; at < len(padded); at += 64 {
			x = Step(x, [64]byte([]byte(padded[at:at+64])))
		}
		var raw []byte
		for _, word := range x {
			raw = binary.BigEndian.AppendUint32(raw, word)
		}
		if got := Sum(s); got != api.Hash(raw) {
			t.Fatalf("%d bytes: the steps come to %x, the sum is %x", n, raw, got)
		}
	}
}
