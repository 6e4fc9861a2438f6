package target

import (
	"math/big"
	"testing"

	"bedrock/api"
	"bedrock/wide"
)

// Promise 5.1: the target, or ErrBits and 0, if the bits may not be: of every size, with and without the sign.
func TestExpand(t *testing.T) {
	for _, bits := range everyBits(1, 20000) {
		var want api.Wide
		wantErr := api.ErrBits
		if target, good := modelExpand(bits); good {
			want, wantErr = wideOf(target), api.OK
		}
		if got, e := Expand(bits); got != want || e != wantErr {
			t.Fatalf("Expand(%08x): %x, %d, not %x, %d", bits, got, e, want, wantErr)
		}
	}
}

// Promise 5.1: bits about the edges of what may be: the targets 0 and 1, that of the limit, the least above it, one that passes 256 bits.
func TestExpandEdges(t *testing.T) {
	half := api.Wide{0, 0, 0, 1 << 63}
	for _, c := range []struct {
		bits uint32
		want api.Wide
		e    api.Errno
	}{
		{0, api.Wide{}, api.ErrBits},
		{0x007fffff, api.Wide{}, api.ErrBits},
		{0x0100ffff, api.Wide{}, api.ErrBits},
		{0x01010000, api.Wide{1}, api.OK},
		{0x017fffff, api.Wide{127}, api.OK},
		{0x01810000, api.Wide{}, api.ErrBits},
		{0x020000ff, api.Wide{}, api.ErrBits},
		{0x02000100, api.Wide{1}, api.OK},
		{0x03000000, api.Wide{}, api.ErrBits},
		{0x03000001, api.Wide{1}, api.OK},
		{0x03800001, api.Wide{}, api.ErrBits},
		{0x04000001, api.Wide{256}, api.OK},
		{0x04800001, api.Wide{}, api.ErrBits},
		{0x1f7fffff, api.Wide{0, 0, 0, 0x007fffff00000000}, api.OK},
		{0x207ffffe, api.Wide{0, 0, 0, 0x7ffffe0000000000}, api.OK},
		{0x207fffff, limitByWords(), api.OK},
		{0x20800000, api.Wide{}, api.ErrBits},
		{0x20ffffff, api.Wide{}, api.ErrBits},
		{0x20000000, api.Wide{}, api.ErrBits},
		{0x21007fff, api.Wide{0, 0, 0, 0x7fff000000000000}, api.OK},
		{Compact(half), api.Wide{}, api.ErrBits},
		{0x21008000, api.Wide{}, api.ErrBits},
		{0x21010000, api.Wide{}, api.ErrBits},
		{0x2200007f, api.Wide{0, 0, 0, 0x7f00000000000000}, api.OK},
		{0x22000080, api.Wide{}, api.ErrBits},
		{0x220000ff, api.Wide{}, api.ErrBits},
		{0x22000101, api.Wide{}, api.ErrBits},
		{0x23000000, api.Wide{}, api.ErrBits},
		{0x23000001, api.Wide{}, api.ErrBits},
		{0xff000000, api.Wide{}, api.ErrBits},
		{0xff7fffff, api.Wide{}, api.ErrBits},
		{0xffffffff, api.Wide{}, api.ErrBits},
	} {
		if got, e := Expand(c.bits); got != c.want || e != c.e {
			t.Errorf("Expand(%08x): %x, %d, not %x, %d", c.bits, got, e, c.want, c.e)
		}
	}
}

// Promise 5.1: bits of a number by its highest three bytes, whatever number it is.
func TestCompact(t *testing.T) {
	for _, w := range everyNumber(2, 20000) {
		if got, want := Compact(w), modelCompact(bigOf(w)); got != want {
			t.Fatalf("Compact(%x): %08x, not %08x", w, got, want)
		}
	}
}

// Promise 5.1: numbers of fewer than three bytes, those whose highest bit would be the sign, and those about the limit.
func TestCompactEdges(t *testing.T) {
	for _, c := range []struct {
		w    api.Wide
		want uint32
	}{
		{api.Wide{}, 0},
		{api.Wide{1}, 0x01010000},
		{api.Wide{0x7f}, 0x017f0000},
		{api.Wide{0x80}, 0x02008000},
		{api.Wide{0xff}, 0x0200ff00},
		{api.Wide{0x100}, 0x02010000},
		{api.Wide{0x7fff}, 0x027fff00},
		{api.Wide{0x8000}, 0x03008000},
		{api.Wide{0xffff}, 0x0300ffff},
		{api.Wide{0x10000}, 0x03010000},
		{api.Wide{0x7fffff}, 0x037fffff},
		{api.Wide{0x800000}, 0x04008000},
		{api.Wide{0xffffff}, 0x0400ffff},
		{api.Wide{0x12345678}, 0x04123456},
		{api.Wide{0x92345678}, 0x05009234},
		{limitByWords(), api.LimitBits},
		{api.Wide{1, 0, 0, 0x7fffff0000000000}, api.LimitBits},
		{api.Wide{0, 0, 0, 1 << 63}, 0x21008000},
		{wide.Not(api.Wide{}), 0x2100ffff},
	} {
		if got := Compact(c.w); got != c.want {
			t.Errorf("Compact(%x): %08x, not %08x", c.w, got, c.want)
		}
	}
}

// Promise 5.1: whether bits may be, and are in the one form.
func TestForm(t *testing.T) {
	for _, bits := range everyBits(3, 20000) {
		target, good := modelExpand(bits)
		if got, want := Form(bits), good && modelCompact(target) == bits; got != want {
			t.Fatalf("Form(%08x): %v", bits, got)
		}
	}
}

// Promise 5.1: bits that say one target in several forms, of which one is the form; bits that may not be have none, even if Compact answers them.
func TestFormOfOneTarget(t *testing.T) {
	for _, c := range []struct {
		one    uint32
		others []uint32
	}{
		{0x01010000, []uint32{0x01010001, 0x0101ffff, 0x02000100, 0x020001ff, 0x03000001}},
		{0x02008000, []uint32{0x03000080, 0x02008001, 0x020080ff}},
		{0x037fffff, nil},
		{0x04123400, []uint32{0x05001234}},
		{0x1d00ffff, nil},
		{0x1c7fff00, []uint32{0x1d007fff}},
		{0x207fff00, []uint32{0x21007fff}},
		{0x207f0000, []uint32{0x21007f00, 0x2200007f}},
		{api.LimitBits, nil},
	} {
		want, e := Expand(c.one)
		if !Form(c.one) || e != api.OK {
			t.Errorf("Form(%08x): false", c.one)
		}
		for _, bits := range c.others {
			if got, e := Expand(bits); got != want || e != api.OK || Form(bits) {
				t.Errorf("%08x: %x, %d, %v", bits, got, e, Form(bits))
			}
		}
	}
	for _, bits := range []uint32{0, 0x21008000, 0x2100ffff, 0x03800001, 0x20ffffff, 0xffffffff} {
		if Form(bits) {
			t.Errorf("Form(%08x): true", bits)
		}
	}
}

// Promise 5.1: the target of LimitBits.
func TestLimit(t *testing.T) {
	want := new(big.Int).Lsh(big.NewInt(0x7fffff), 29*8)
	if got := Limit(); got != wideOf(want) || got != limitByWords() {
		t.Errorf("Limit: %x", got)
	}
	if got, e := Expand(api.LimitBits); got != Limit() || e != api.OK {
		t.Errorf("Expand of LimitBits: %x, %d", got, e)
	}
}

// wantClose holds the target of a number's bits against the number: not above it, and less than one part of 32768 below.
func wantClose(t *testing.T, w api.Wide) {
	t.Helper()
	got, e := Expand(Compact(w))
	lost := new(big.Int).Sub(bigOf(w), bigOf(got))
	lost.Mul(lost, big.NewInt(32768))
	if e != api.OK || wide.Compare(got, w) > 0 || lost.Cmp(bigOf(w)) >= 0 || !Form(Compact(w)) {
		t.Fatalf("Expand of Compact(%x): %x, %d", w, got, e)
	}
}

// Promise 5.4: Expand of Compact is the number but for its lower bytes, up to the limit.
func TestExpandOfCompact(t *testing.T) {
	for _, w := range everyNumber(4, 20000) {
		if wide.Zero(w) || wide.Compare(w, limitByWords()) > 0 {
			continue
		}
		wantClose(t, w)
	}
	for size := range uint(32) { // what is lost is the most, where all bits behind the two bytes that stay are ones
		most := new(big.Int).Lsh(big.NewInt(0x8001), 8*size)
		if most.Sub(most, big.NewInt(1)); most.Cmp(bigOf(limitByWords())) <= 0 {
			wantClose(t, wideOf(most))
		}
	}
}

// Promise 5.4: bits in the one form come back whole.
func TestCompactOfExpand(t *testing.T) {
	for _, bits := range goodBits(5, 20000) {
		target, _ := Expand(bits)
		back := Compact(target)
		again, e := Expand(back)
		if again != target || e != api.OK || !Form(back) {
			t.Fatalf("Compact of Expand(%08x): %08x, of %x", bits, back, again)
		}
	}
}

// The chapter's example 1: targets and bits.
func TestExampleExpand(t *testing.T) {
	if got, e := Expand(0x207fffff); bigOf(got).Cmp(new(big.Int).Lsh(big.NewInt(0x7fffff), 8*29)) != 0 || e != api.OK {
		t.Errorf("Expand(0x207fffff): %x, %d", got, e)
	}
	if got, e := Expand(0x1d00ffff); bigOf(got).Cmp(new(big.Int).Lsh(big.NewInt(0xffff), 8*26)) != 0 || e != api.OK {
		t.Errorf("Expand(0x1d00ffff): %x, %d", got, e)
	}
	if got, e := Expand(0x01003456); got != (api.Wide{}) || e != api.ErrBits {
		t.Errorf("Expand(0x01003456): %x, %d", got, e)
	}
	if got := Compact(api.Wide{128}); got != 0x02008000 {
		t.Errorf("Compact(128): %08x", got)
	}
}
