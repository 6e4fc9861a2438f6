package wide

import (
	"math"
	"math/big"
	"testing"

	"bedrock/api"
)

// farShifts is shifts that move all bits out, either way.
func farShifts() []int {
	return []int{256, 257, 300, 319, 320, 512, 1 << 20, 1 << 32, 1<<32 + 1, 1 << 62, math.MaxInt - 1, math.MaxInt, -256, -257, -300, -320, -512, -1 << 32, -1<<32 - 1, -1 << 62, math.MinInt + 1, math.MinInt}
}

// allShifts is every shift from -260 to 260, and the far ones.
func allShifts() []int {
	l := farShifts()
	for n := -260; n <= 260; n++ {
		l = append(l, n)
	}
	return l
}

// wantUp is a times 2^n, without a bound, n from 0 on; as much past 256 as tells the same.
func wantUp(a api.Wide, n int) *big.Int { return new(big.Int).Lsh(bigOf(a), uint(min(n, 600))) }

// wantDown is a over 2^n, cut down, n from 0 on.
func wantDown(a api.Wide, n int) *big.Int { return new(big.Int).Rsh(bigOf(a), uint(min(n, 600))) }

// opposite is -n, or the greatest int for the least.
func opposite(n int) int { return -max(n, -math.MaxInt) }

// Promise 4.3: a times 2^n modulo 2^256, and whether it is another one; of n below 0 Right of a and -n, and false.
func TestLeft(t *testing.T) {
	for _, a := range many(30, 60) {
		for _, n := range allShifts() {
			got, lost := Left(a, n)
			if n < 0 {
				if got != wideOf(wantDown(a, opposite(n))) || lost {
					t.Fatalf("Left(%x, %d): %x, %v", a, n, got, lost)
				}
				continue
			}
			want := wantUp(a, n)
			if got != wideOf(want) || lost == fits(want) {
				t.Fatalf("Left(%x, %d): %x, %v", a, n, got, lost)
			}
		}
	}
}

// Promise 4.3: a over 2^n, cut down; of n below 0 Left's number of a and -n.
func TestRight(t *testing.T) {
	for _, a := range many(31, 60) {
		for _, n := range allShifts() {
			want := wantDown(a, max(n, 0))
			if n < 0 {
				want = wantUp(a, opposite(n))
			}
			if got := Right(a, n); got != wideOf(want) {
				t.Fatalf("Right(%x, %d): %x", a, n, got)
			}
		}
	}
}

// Promise 4.3: 0 from 256 on, either way; Left tells that bits were lost, but of 0, and but where it goes right.
func TestFarShifts(t *testing.T) {
	for _, n := range farShifts() {
		for _, a := range edges() {
			if got, lost := Left(a, n); !Zero(got) || lost != (n > 0 && !Zero(a)) {
				t.Fatalf("Left(%x, %d): %x, %v", a, n, got, lost)
			}
			if got := Right(a, n); !Zero(got) {
				t.Fatalf("Right(%x, %d): %x", a, n, got)
			}
		}
	}
}

// Promise 4.3: below 0 each is the other one.
func TestShiftsBelowZero(t *testing.T) {
	for _, a := range many(32, 60) {
		for n := 1; n <= 300; n++ {
			if got, lost := Left(a, -n); got != Right(a, n) || lost {
				t.Fatalf("Left(%x, %d): %x, %v", a, -n, got, lost)
			}
			if want, _ := Left(a, n); Right(a, -n) != want {
				t.Fatalf("Right(%x, %d): %x", a, -n, Right(a, -n))
			}
		}
	}
}

// Promise 4.3: the least n with a below 2^n.
func TestBits(t *testing.T) {
	for _, a := range many(33, 1000) {
		if got, want := Bits(a), bigOf(a).BitLen(); got != want {
			t.Fatalf("Bits(%x): %d, not %d", a, got, want)
		}
	}
	for n := range uint(256) {
		if got := Bits(wideOf(power(n))); got != int(n)+1 {
			t.Errorf("Bits of 2^%d: %d", n, got)
		}
		if got := Bits(wideOf(new(big.Int).Sub(power(n), big.NewInt(1)))); got != int(n) {
			t.Errorf("Bits of 2^%d - 1: %d", n, got)
		}
	}
}

// Promise 4.3: the bit n, from the lowest on; false outside of 0 to 255.
func TestBit(t *testing.T) {
	outside := []int{-1, -2, -63, -64, -255, -256, math.MinInt, 256, 257, 319, 320, 511, 512, 1 << 32, math.MaxInt}
	for _, a := range many(34, 200) {
		n := bigOf(a)
		for i := range 256 {
			if got, want := Bit(a, i), n.Bit(i) == 1; got != want {
				t.Fatalf("Bit(%x, %d): %v", a, i, got)
			}
		}
		for _, i := range outside {
			if Bit(a, i) {
				t.Fatalf("Bit(%x, %d): true", a, i)
			}
		}
	}
}

// The chapter's example 1: shifts and numbers of bits.
func TestExampleShifts(t *testing.T) {
	half := api.Wide{0, 0, 0, 1 << 63}
	if got, lost := Left(From(1), 255); got != half || lost {
		t.Errorf("Left(1, 255): %x, %v", got, lost)
	}
	if got, lost := Left(From(3), 255); got != half || !lost {
		t.Errorf("Left(3, 255): %x, %v", got, lost)
	}
	if Bits(From(0)) != 0 || Bits(From(255)) != 8 || Bits(greatest()) != 256 {
		t.Errorf("Bits: %d, %d, %d", Bits(From(0)), Bits(From(255)), Bits(greatest()))
	}
	if !Bit(half, 255) || Bit(half, 254) || Bit(greatest(), -1) || Bit(greatest(), 256) || !Bit(From(1), 0) {
		t.Error("Bit")
	}
}
