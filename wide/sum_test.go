package wide

import (
	"math/big"
	"math/rand"
	"slices"
	"testing"

	"bedrock/api"
)

// Promise 4.2: the sum modulo 2^256, and whether it is another one.
func TestAdd(t *testing.T) {
	pairs(10, 4000, func(a, b api.Wide) {
		want := new(big.Int).Add(bigOf(a), bigOf(b))
		if got, over := Add(a, b); got != wideOf(want) || over == fits(want) {
			t.Fatalf("Add(%x, %x): %x, %v", a, b, got, over)
		}
	})
}

// Promise 4.2: the difference modulo 2^256, and whether it is another one.
func TestSub(t *testing.T) {
	pairs(11, 4000, func(a, b api.Wide) {
		want := new(big.Int).Sub(bigOf(a), bigOf(b))
		if got, under := Sub(a, b); got != wideOf(want) || under == fits(want) {
			t.Fatalf("Sub(%x, %x): %x, %v", a, b, got, under)
		}
	})
}

// Promise 4.5: Sub of Add is the number again, and Add of Sub.
func TestSubOfAdd(t *testing.T) {
	pairs(12, 2000, func(a, b api.Wide) {
		sum, over := Add(a, b)
		if back, under := Sub(sum, b); back != a || under != over {
			t.Fatalf("%x and %x: back to %x, %v and %v", a, b, back, over, under)
		}
		rest, under := Sub(a, b)
		if back, over := Add(rest, b); back != a || under != over {
			t.Fatalf("%x less %x: back to %x, %v and %v", a, b, back, under, over)
		}
	})
}

// wantSum holds a sum of numbers against math/big.
func wantSum(t *testing.T, l []api.Wide) {
	t.Helper()
	want := new(big.Int)
	for _, a := range l {
		want.Add(want, bigOf(a))
	}
	kept := slices.Clone(l)
	if got, over := Sum(l...); got != wideOf(want) || over == fits(want) {
		t.Fatalf("Sum of %d: %x, %v, not %x", len(l), got, over, want)
	}
	if !slices.Equal(l, kept) {
		t.Fatal("Sum changed what was handed in")
	}
}

// Promise 4.2: 0 of none, one alone, and many, of which some pass 2^256 early, late, twice, and come back below where they were.
func TestSum(t *testing.T) {
	if got, over := Sum(); got != (api.Wide{}) || over {
		t.Errorf("Sum of none: %x, %v", got, over)
	}
	wantSum(t, nil)
	wantSum(t, []api.Wide{})
	for _, a := range edges() {
		wantSum(t, []api.Wide{a})
		wantSum(t, []api.Wide{a, {}})
	}
	most, half, one := greatest(), api.Wide{0, 0, 0, 1 << 63}, From(1)
	wantSum(t, []api.Wide{most, one})
	wantSum(t, []api.Wide{one, most})
	wantSum(t, []api.Wide{most, {}, {}})
	wantSum(t, []api.Wide{most, one, one, one})
	wantSum(t, []api.Wide{one, one, most, one})
	wantSum(t, []api.Wide{half, half})
	wantSum(t, []api.Wide{half, half, half})
	wantSum(t, []api.Wide{half, half, half, half})
	wantSum(t, []api.Wide{most, most, most, most, most})
	lots := rand.New(rand.NewSource(13))
	for range 1000 {
		l := make([]api.Wide, lots.Intn(12))
		for i := range l {
			l[i] = some(lots)
		}
		wantSum(t, l)
	}
}

// Promise 4.2: a list whose spare room holds more is summed to its end alone.
func TestSumEndsAtItsEnd(t *testing.T) {
	l := []api.Wide{From(1), From(2), From(4)}
	if got, over := Sum(l[:2]...); got != From(3) || over {
		t.Errorf("Sum: %x, %v", got, over)
	}
}

// Promise 4.2: the product's lower 256 bits, and its higher ones.
func TestMul(t *testing.T) {
	pairs(14, 4000, func(a, b api.Wide) {
		want := new(big.Int).Mul(bigOf(a), bigOf(b))
		low, high := Mul(a, b)
		if low != wideOf(want) || high != wideOf(new(big.Int).Rsh(want, 256)) {
			t.Fatalf("Mul(%x, %x): %x, %x", a, b, low, high)
		}
	})
}

// The chapter's example 1: sums, differences and products about the greatest number.
func TestExampleSums(t *testing.T) {
	most, one := greatest(), From(1)
	if got, over := Add(most, one); got != (api.Wide{}) || !over {
		t.Errorf("the greatest and 1: %x, %v", got, over)
	}
	if got, under := Sub(api.Wide{}, one); got != most || !under {
		t.Errorf("0 less 1: %x, %v", got, under)
	}
	if low, high := Mul(most, most); low != one || high != (api.Wide{1<<64 - 2, 1<<64 - 1, 1<<64 - 1, 1<<64 - 1}) {
		t.Errorf("the greatest by itself: %x, %x", low, high)
	}
}
