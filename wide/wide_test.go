package wide

import (
	"math/big"
	"math/rand"
	"testing"

	"bedrock/api"
)

// power is 2^n.
func power(n uint) *big.Int { return new(big.Int).Lsh(big.NewInt(1), n) }

// bigOf is a number of math/big, by its words.
func bigOf(a api.Wide) *big.Int {
	n := new(big.Int)
	for i, word := range a {
		n.Add(n, new(big.Int).Lsh(new(big.Int).SetUint64(word), uint(64*i)))
	}
	return n
}

// wideOf is a number of math/big modulo 2^256, by its words.
func wideOf(n *big.Int) api.Wide {
	n = new(big.Int).Mod(n, power(256))
	var a api.Wide
	for i := range a {
		word := new(big.Int).Rsh(n, uint(64*i))
		a[i] = word.Mod(word, power(64)).Uint64()
	}
	return a
}

// fits tells whether a number is none else modulo 2^256.
func fits(n *big.Int) bool { return n.Sign() >= 0 && n.Cmp(power(256)) < 0 }

// greatest is 2^256 - 1.
func greatest() api.Wide { return api.Wide{1<<64 - 1, 1<<64 - 1, 1<<64 - 1, 1<<64 - 1} }

// edges is 0, the greatest, and numbers about the ends of words and halves.
func edges() []api.Wide {
	l := []api.Wide{{}, {1}, {2}, {3}, {9}, {10}, {255}, greatest()}
	for _, n := range []uint{63, 64, 65, 127, 128, 129, 191, 192, 193, 254, 255, 256} {
		for more := int64(-2); more <= 2; more++ {
			l = append(l, wideOf(new(big.Int).Add(power(n), big.NewInt(more))))
		}
	}
	for i := range 4 {
		var only api.Wide
		only[i] = 1<<64 - 1
		l = append(l, only, api.Wide{^only[0], ^only[1], ^only[2], ^only[3]})
	}
	return l
}

// some is a number by lots: of any length, of words that are often 0 or all ones.
func some(lots *rand.Rand) api.Wide {
	var a api.Wide
	for i := range lots.Intn(5) {
		switch lots.Intn(5) {
		case 0:
		case 1:
			a[i] = 1<<64 - 1
		case 2:
			a[i] = lots.Uint64() >> lots.Intn(64)
		default:
			a[i] = lots.Uint64()
		}
	}
	return a
}

// many is the edges and some by lots.
func many(seed int64, n int) []api.Wide {
	lots, l := rand.New(rand.NewSource(seed)), edges()
	for range n {
		l = append(l, some(lots))
	}
	return l
}

// pairs calls for each pair of the edges, and for pairs by lots, of near and of like numbers too.
func pairs(seed int64, n int, call func(a, b api.Wide)) {
	for _, a := range edges() {
		for _, b := range edges() {
			call(a, b)
		}
	}
	lots := rand.New(rand.NewSource(seed))
	for range n {
		a, b := some(lots), some(lots)
		call(a, b)
		call(a, a)
		near := a
		near[lots.Intn(4)] ^= 1 << lots.Intn(64)
		call(a, near)
	}
}

// Promise 4.1: a number of one word.
func TestFrom(t *testing.T) {
	for _, n := range []uint64{0, 1, 2, 255, 256, 1<<32 - 1, 1 << 32, 1<<63 - 1, 1 << 63, 1<<64 - 1} {
		if got := From(n); got != (api.Wide{n, 0, 0, 0}) {
			t.Errorf("From(%d): %x", n, got)
		}
		if got, ok := Low(From(n)); got != n || !ok {
			t.Errorf("Low(From(%d)): %d, %v", n, got, ok)
		}
	}
}

// Promise 4.1: as 64 bits, if it is below 2^64; else 0 and false.
func TestLow(t *testing.T) {
	for _, a := range many(1, 2000) {
		want, below := uint64(0), bigOf(a).Cmp(power(64)) < 0
		if below {
			want = bigOf(a).Uint64()
		}
		if got, ok := Low(a); got != want || ok != below {
			t.Fatalf("Low(%x): %d, %v", a, got, ok)
		}
	}
	for i := 1; i < 4; i++ {
		a := api.Wide{7}
		a[i] = 1
		if got, ok := Low(a); got != 0 || ok {
			t.Errorf("Low with the word %d: %d, %v", i, got, ok)
		}
	}
}

// Promise 4.1: 32 bytes, the lowest first, and back.
func TestBytes(t *testing.T) {
	for _, a := range many(2, 1000) {
		h, n := Bytes(a), bigOf(a)
		for i, b := range h {
			if want := byte(new(big.Int).Rsh(n, uint(8*i)).Uint64()); b != want {
				t.Fatalf("Bytes(%x): byte %d is %d, not %d", a, i, b, want)
			}
		}
		if back := Of(h); back != a {
			t.Fatalf("Of(Bytes(%x)): %x", a, back)
		}
	}
}

// Promise 4.1: bytes that are all unlike, and each byte alone.
func TestOf(t *testing.T) {
	var h api.Hash
	for i := range h {
		h[i] = byte(i + 1)
	}
	want := api.Wide{0x0807060504030201, 0x100f0e0d0c0b0a09, 0x1817161514131211, 0x201f1e1d1c1b1a19}
	if got := Of(h); got != want || Bytes(want) != h {
		t.Errorf("Of: %x, Bytes: %x", got, Bytes(want))
	}
	for i := range h {
		alone := api.Hash{}
		alone[i] = 255
		want := wideOf(new(big.Int).Lsh(big.NewInt(255), uint(8*i)))
		if got := Of(alone); got != want || Bytes(got) != alone {
			t.Errorf("byte %d alone: %x", i, got)
		}
	}
}

// Promise 4.1: -1, 0, 1, as the numbers are.
func TestCompare(t *testing.T) {
	pairs(3, 2000, func(a, b api.Wide) {
		if got, want := Compare(a, b), bigOf(a).Cmp(bigOf(b)); got != want {
			t.Fatalf("Compare(%x, %x): %d, not %d", a, b, got, want)
		}
	})
	low, high := api.Wide{9, 9, 9, 1}, api.Wide{0, 0, 0, 2}
	if Compare(low, high) != -1 || Compare(high, low) != 1 || Compare(low, low) != 0 {
		t.Error("the highest word goes first")
	}
}

// Promise 4.1: whether it is 0; each single bit makes it none.
func TestZero(t *testing.T) {
	if !Zero(api.Wide{}) || !Zero(From(0)) {
		t.Error("0 is not")
	}
	for n := range uint(256) {
		if Zero(wideOf(power(n))) {
			t.Errorf("2^%d is", n)
		}
	}
	for _, a := range many(4, 500) {
		if got, want := Zero(a), bigOf(a).Sign() == 0; got != want {
			t.Fatalf("Zero(%x): %v", a, got)
		}
	}
}

// Promise 4.1: each bit turned over, so that a number and its Not are the greatest together; and twice is the number again.
func TestNot(t *testing.T) {
	if got := Not(api.Wide{}); got != greatest() {
		t.Errorf("Not(0): %x", got)
	}
	if got := Not(api.Wide{1, 2, 4, 8}); got != (api.Wide{1<<64 - 2, 1<<64 - 3, 1<<64 - 5, 1<<64 - 9}) {
		t.Errorf("Not of single bits: %x", got)
	}
	for _, a := range many(5, 1000) {
		want := wideOf(new(big.Int).Sub(bigOf(greatest()), bigOf(a)))
		if got := Not(a); got != want || Not(got) != a {
			t.Fatalf("Not(%x): %x", a, got)
		}
	}
}
