package wide

import (
	"math/big"
	"testing"

	"bedrock/api"
)

// wantDiv holds a quotient against math/big.
func wantDiv(t *testing.T, a, b api.Wide) {
	t.Helper()
	quotient, rest, e := Div(a, b)
	if Zero(b) {
		if quotient != (api.Wide{}) || rest != (api.Wide{}) || e != api.ErrZero {
			t.Fatalf("Div(%x, 0): %x, %x, %d", a, quotient, rest, e)
		}
		return
	}
	q, r := new(big.Int).QuoRem(bigOf(a), bigOf(b), new(big.Int))
	if quotient != wideOf(q) || rest != wideOf(r) || e != api.OK {
		t.Fatalf("Div(%x, %x): %x, %x, %d, not %x, %x", a, b, quotient, rest, e, q, r)
	}
}

// Promise 4.2: the quotient, cut down, and what is left, or ErrZero: divisors 0, 1, above the number and equal to it, of one word and of more.
func TestDiv(t *testing.T) {
	pairs(20, 6000, func(a, b api.Wide) { wantDiv(t, a, b) })
	for _, a := range many(21, 500) {
		wantDiv(t, a, api.Wide{})
		wantDiv(t, a, From(1))
		wantDiv(t, a, a)
		less, _ := Sub(a, From(1))
		more, _ := Add(a, From(1))
		wantDiv(t, a, less)
		wantDiv(t, a, more)
		wantDiv(t, a, From(10))
		wantDiv(t, a, From(1<<64-1))
		wantDiv(t, a, api.Wide{0, 1})
		wantDiv(t, a, api.Wide{0, 0, 0, 1})
		wantDiv(t, a, api.Wide{1, 0, 0, 1 << 63})
	}
}

// Promise 4.2: divisors of every number of bits, about the powers of 2.
func TestDivByEveryLength(t *testing.T) {
	numbers := []api.Wide{greatest(), {0, 0, 0, 1 << 63}, {0, 0, 1}, {0x123456789abcdef0, 0x0fedcba987654321, 0x1111222233334444, 0x5555666677778888}}
	for n := range uint(256) {
		for more := int64(-1); more <= 1; more++ {
			b := wideOf(new(big.Int).Add(power(n), big.NewInt(more)))
			for _, a := range numbers {
				wantDiv(t, a, b)
			}
		}
	}
}

// Promise 4.5: the quotient times the divisor, and what is left, is the number, and what is left is below the divisor.
func TestDivAndMul(t *testing.T) {
	pairs(22, 3000, func(a, b api.Wide) {
		quotient, rest, e := Div(a, b)
		if e != api.OK {
			return
		}
		low, high := Mul(quotient, b)
		sum, over := Add(low, rest)
		if sum != a || over || !Zero(high) || Compare(rest, b) >= 0 {
			t.Fatalf("Div(%x, %x): %x, %x: together %x, %v, %x", a, b, quotient, rest, sum, over, high)
		}
	})
}

// Promise 4.2: the greatest number whose square is not above the number.
func TestRoot(t *testing.T) {
	for _, a := range many(23, 1500) {
		if got, want := Root(a), wideOf(new(big.Int).Sqrt(bigOf(a))); got != want {
			t.Fatalf("Root(%x): %x, not %x", a, got, want)
		}
	}
	for n := range uint64(2000) {
		root := Root(From(n))
		if r := root[0]; root != From(r) || r*r > n || (r+1)*(r+1) <= n {
			t.Fatalf("Root(%d): %x", n, root)
		}
	}
}

// Promise 4.2: roots of squares, of one less and of one more, of roots of up to 128 bits.
func TestRootOfSquares(t *testing.T) {
	roots := []*big.Int{big.NewInt(1), big.NewInt(2), big.NewInt(3), big.NewInt(10)}
	for n := uint(1); n <= 128; n++ {
		roots = append(roots, power(n-1), new(big.Int).Sub(power(n), big.NewInt(1)))
	}
	for _, a := range many(24, 500) {
		if root := new(big.Int).Rsh(bigOf(a), 128); root.Sign() > 0 {
			roots = append(roots, root)
		}
	}
	for _, root := range roots {
		square := wideOf(new(big.Int).Mul(root, root))
		if got := Root(square); got != wideOf(root) {
			t.Fatalf("Root of the square of %x: %x", root, got)
		}
		less, _ := Sub(square, From(1))
		if got := Root(less); got != wideOf(new(big.Int).Sub(root, big.NewInt(1))) {
			t.Fatalf("Root of 1 less than the square of %x: %x", root, got)
		}
		more, _ := Add(square, From(1))
		if got := Root(more); got != wideOf(root) {
			t.Fatalf("Root of 1 more than the square of %x: %x", root, got)
		}
	}
}

// The chapter's example 1: a quotient and a root.
func TestExampleDiv(t *testing.T) {
	if q, r, e := Div(From(7), From(2)); q != From(3) || r != From(1) || e != api.OK {
		t.Errorf("Div(7, 2): %x, %x, %d", q, r, e)
	}
	if q, r, e := Div(From(7), From(0)); q != (api.Wide{}) || r != (api.Wide{}) || e != api.ErrZero {
		t.Errorf("Div(7, 0): %x, %x, %d", q, r, e)
	}
	if q, r, e := Div(From(0), From(0)); q != (api.Wide{}) || r != (api.Wide{}) || e != api.ErrZero {
		t.Errorf("Div(0, 0): %x, %x, %d", q, r, e)
	}
	if got := Root(From(99)); got != From(9) {
		t.Errorf("Root(99): %x", got)
	}
	if got := Root(greatest()); got != (api.Wide{1<<64 - 1, 1<<64 - 1}) {
		t.Errorf("Root of the greatest: %x", got)
	}
	if got := Root(From(0)); got != From(0) {
		t.Errorf("Root(0): %x", got)
	}
}
