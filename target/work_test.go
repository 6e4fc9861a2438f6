package target

import (
	"cmp"
	"math/big"
	"slices"
	"testing"

	"bedrock/api"
	"bedrock/wide"
)

// badBits is bits that may not be: of the target 0, with the sign, above the limit, past 256 bits.
func badBits() []uint32 {
	return []uint32{0, 1, 0x007fffff, 0x0100ffff, 0x01003456, 0x020000ff, 0x03000000, 0x03800001, 0x04800001, 0x1d80ffff, 0x20000000, 0x20800000, 0x20ffffff, 0x21008000, 0x22000080, 0x23000001, 0x7f7fffff, 0xff000000, 0xff7fffff, 0xffffffff}
}

// Promise 5.1: 2^256 over the target and 1, rounded down, or ErrBits and 0.
func TestWork(t *testing.T) {
	for _, bits := range everyBits(10, 5000) {
		var want api.Wide
		wantErr := api.ErrBits
		if target, good := modelExpand(bits); good {
			want, wantErr = wideOf(modelWork(target)), api.OK
		}
		if got, e := Work(bits); got != want || e != wantErr {
			t.Fatalf("Work(%08x): %x, %d, not %x, %d", bits, got, e, want, wantErr)
		}
	}
}

// Promise 5.1: the greatest works, the least, and those of targets by which 2^256 divides without a rest.
func TestWorkEdges(t *testing.T) {
	for _, c := range []struct {
		bits uint32
		want api.Wide
	}{
		{0x03000001, api.Wide{0, 0, 0, 1 << 63}},
		{0x03000002, wideOf(new(big.Int).Quo(power(256), big.NewInt(3)))},
		{0x03000003, api.Wide{0, 0, 0, 1 << 62}},
		{0x030000ff, api.Wide{0, 0, 0, 1 << 56}},
		{0x0300ffff, api.Wide{0, 0, 0, 1 << 48}},
		{0x1d00ffff, api.Wide{0x100010001}},
		{0x20400000, api.Wide{3}},
		{0x20555555, api.Wide{3}},
		{0x207fffff, api.Wide{2}},
	} {
		if got, e := Work(c.bits); got != c.want || e != api.OK {
			t.Errorf("Work(%08x): %x, %d, not %x", c.bits, got, e, c.want)
		}
	}
	for _, bits := range badBits() {
		if got, e := Work(bits); got != (api.Wide{}) || e != api.ErrBits {
			t.Errorf("Work(%08x): %x, %d", bits, got, e)
		}
	}
}

// Promise 5.4: work falls as targets rise: never the other way, and in truth from one target to its double.
func TestWorkFalls(t *testing.T) {
	l := goodBits(11, 3000)
	slices.SortFunc(l, func(a, b uint32) int { return cmp.Or(modelSaid(a).Cmp(modelSaid(b)), cmp.Compare(a, b)) })
	for i := 1; i < len(l); i++ {
		more, _ := Work(l[i-1])
		less, _ := Work(l[i])
		if wide.Compare(less, more) > 0 {
			t.Fatalf("Work(%08x): %x, Work(%08x): %x", l[i-1], more, l[i], less)
		}
	}
	for bit := range uint(254) {
		more, first := Work(Compact(wideOf(power(bit))))
		less, second := Work(Compact(wideOf(power(bit + 1))))
		if first != api.OK || second != api.OK || wide.Compare(less, more) >= 0 {
			t.Errorf("the work of 2^%d is %x, that of its double %x", bit, more, less)
		}
	}
}

// Promise 5.2: the work as 64 bits, or the greatest number of these, or ErrBits and 0.
func TestTries(t *testing.T) {
	for _, bits := range everyBits(12, 5000) {
		var want uint64
		wantErr := api.ErrBits
		if target, good := modelExpand(bits); good {
			want, wantErr = 1<<64-1, api.OK
			if work := modelWork(target); work.IsUint64() {
				want = work.Uint64()
			}
		}
		if got, e := Tries(bits); got != want || e != wantErr {
			t.Fatalf("Tries(%08x): %d, %d, not %d, %d", bits, got, e, want, wantErr)
		}
	}
}

// Promise 5.2: the tries about 2^64: of the target 2^192 just below it, of those below more than 64 bits.
func TestTriesEdges(t *testing.T) {
	for _, c := range []struct {
		bits uint32
		want uint64
	}{
		{0x19010000, 1<<64 - 1},          // 2^192: 2^64 less a little
		{0x1900ffff, 1<<64 - 1},          // the next target below it: above 2^64
		{0x19010001, 0xffff0000ffff0000}, // the next one above it
		{0x19020000, 1<<63 - 1},
		{0x03000001, 1<<64 - 1},
		{0x1d00ffff, 0x100010001},
		{0x207fffff, 2},
	} {
		if got, e := Tries(c.bits); got != c.want || e != api.OK {
			t.Errorf("Tries(%08x): %x, %d, not %x", c.bits, got, e, c.want)
		}
	}
	for _, bits := range badBits() {
		if got, e := Tries(bits); got != 0 || e != api.ErrBits {
			t.Errorf("Tries(%08x): %d, %d", bits, got, e)
		}
	}
}

// Promise 5.2: ids just at the target, one below it and one above, of every target that may be.
func TestMeets(t *testing.T) {
	for _, bits := range goodBits(13, 3000) {
		target := modelSaid(bits)
		for more := int64(-1); more <= 1; more++ {
			id := wide.Bytes(wideOf(new(big.Int).Add(target, big.NewInt(more))))
			if got := Meets(id, bits); got != (more <= 0) {
				t.Fatalf("Meets of the target and %d, %08x: %v", more, bits, got)
			}
		}
		if !Meets(api.Hash{}, bits) || Meets(wide.Bytes(wide.Not(api.Wide{})), bits) {
			t.Fatalf("Meets of 0, or of all ones, %08x", bits)
		}
	}
}

// Promise 5.2: an id's first byte is the lowest; nothing meets bits that may not be.
func TestMeetsOrder(t *testing.T) {
	low, high := api.Hash{0: 255}, api.Hash{31: 1}
	if !Meets(low, 0x030000ff) || Meets(high, 0x030000ff) || !Meets(high, 0x20010000) || Meets(high, 0x2000ffff) {
		t.Error("the first byte is the lowest")
	}
	if Meets(api.Hash{31: 0x80}, api.LimitBits) || !Meets(api.Hash{31: 0x7f}, api.LimitBits) {
		t.Error("the last byte is the highest")
	}
	for _, bits := range badBits() {
		if Meets(api.Hash{}, bits) || Meets(low, bits) {
			t.Errorf("Meets of 0, %08x: true", bits)
		}
	}
}

// Promise 5.2: whether both may be, and the first one's target is below.
func TestHarder(t *testing.T) {
	l := append(badBits(), 0x01010000, 0x02000100, 0x03000001, 0x03000002, 0x04000001, 0x030000ff, 0x1d00ffff, 0x1c7fff00, 0x1d007fff, 0x207ffffe, 0x207fffff, 0x21007fff, 0x2200007f)
	l = append(l, everyBits(14, 100)[6000:]...)
	for _, a := range l {
		first, good := modelExpand(a)
		for _, b := range l {
			second, too := modelExpand(b)
			if got, want := Harder(a, b), good && too && first.Cmp(second) < 0; got != want {
				t.Fatalf("Harder(%08x, %08x): %v", a, b, got)
			}
		}
	}
}

// Promise 5.2: one target in two forms is not harder than itself; bits of a higher number may be harder.
func TestHarderEdges(t *testing.T) {
	if Harder(0x1d007fff, 0x1c7fff00) || Harder(0x1c7fff00, 0x1d007fff) || Harder(api.LimitBits, api.LimitBits) {
		t.Error("harder than itself")
	}
	if !Harder(0x2200007f, 0x207fffff) || !Harder(0x207ffffe, 0x207fffff) || Harder(0x207fffff, 0x207ffffe) {
		t.Error("about the limit")
	}
	if Harder(0x03000000, api.LimitBits) || Harder(0x207fffff, 0x21008000) || Harder(0x03800001, api.LimitBits) || Harder(0, 0) {
		t.Error("bits that may not be")
	}
}

// The chapter's example 1: the work of the limit.
func TestExampleWork(t *testing.T) {
	if got, e := Work(0x207fffff); got != (api.Wide{2}) || e != api.OK {
		t.Errorf("Work(0x207fffff): %x, %d", got, e)
	}
	if got, e := Tries(0x207fffff); got != 2 || e != api.OK {
		t.Errorf("Tries(0x207fffff): %d, %d", got, e)
	}
}
