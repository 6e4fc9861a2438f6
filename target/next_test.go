package target

import (
	"math/rand"
	"testing"

	"bedrock/api"
	"bedrock/wide"
)

// times is two times of blocks.
type times struct{ first, last uint32 }

// edgeTimes is spans about 0, a fourth of the meant one, it, four times it, and the greatest there is, and times the other way round.
func edgeTimes() []times {
	var l []times
	for _, span := range []uint32{0, 1, 119, 120, 121, 240, 479, 480, 481, 960, 1919, 1920, 1921, 1000000, 1<<31 - 1, 1 << 31, 1<<32 - 1 - api.GenesisTime} {
		l = append(l, times{0, span}, times{api.GenesisTime, api.GenesisTime + span}, times{1<<32 - 1 - span, 1<<32 - 1}, times{span, 0})
	}
	return append(l, times{0, 1<<32 - 1}, times{1<<32 - 1, 0}, times{1, 0}, times{1<<32 - 1, 479}, times{1<<32 - 480, 0})
}

// wantNext holds the next target's bits against math/big.
func wantNext(t *testing.T, bits uint32, c times) {
	t.Helper()
	var want uint32
	wantErr := api.ErrBits
	if target, good := modelExpand(bits); good {
		want, wantErr = modelNext(target, c.first, c.last), api.OK
	}
	if got, e := Next(bits, c.first, c.last); got != want || e != wantErr {
		t.Fatalf("Next(%08x, %d, %d): %08x, %d, not %08x, %d", bits, c.first, c.last, got, e, want, wantErr)
	}
}

// Promise 5.3: the target times the real span over the meant one, for bits of every size and spans at the edges.
func TestNext(t *testing.T) {
	for _, bits := range everyBits(20, 300) {
		for _, c := range edgeTimes() {
			wantNext(t, bits, c)
		}
	}
}

// Promise 5.3: times by lots, near to each other and far.
func TestNextByLots(t *testing.T) {
	lots := rand.New(rand.NewSource(21))
	for _, bits := range goodBits(22, 10000) {
		first := lots.Uint32() / 2
		wantNext(t, bits, times{first, first + uint32(lots.Intn(2200))})
		wantNext(t, bits, times{first, lots.Uint32()})
	}
}

// Promise 5.3: every span that counts, and some that do not, of targets about the ends.
func TestNextOfEverySpan(t *testing.T) {
	for _, bits := range []uint32{0x03000001, 0x03000003, 0x03000004, 0x0300ffff, 0x1d00ffff, 0x1e7fffff, 0x201fffff, 0x20200000, 0x20400000, 0x20600000, 0x207ffffe, 0x207fffff, 0x2200007f} {
		for span := range uint32(2000) {
			wantNext(t, bits, times{api.GenesisTime, api.GenesisTime + span})
		}
	}
}

// Promise 5.3: spans below a fourth count as one, those above four times as these, and times the other way round as 0.
func TestNextBounds(t *testing.T) {
	for _, bits := range goodBits(23, 500) {
		least, _ := Next(bits, 0, 120)
		most, _ := Next(bits, 0, 1920)
		for _, c := range []times{{0, 0}, {0, 1}, {7, 7}, {0, 119}, {1, 0}, {480, 0}, {1920, 0}, {1<<32 - 1, 0}, {1<<32 - 1, 959}} {
			if got, e := Next(bits, c.first, c.last); got != least || e != api.OK {
				t.Fatalf("Next(%08x, %d, %d): %08x, %d, not %08x", bits, c.first, c.last, got, e, least)
			}
		}
		for _, c := range []times{{0, 1921}, {0, 1000000}, {0, 1<<32 - 1}, {5, 1 << 31}} {
			if got, e := Next(bits, c.first, c.last); got != most || e != api.OK {
				t.Fatalf("Next(%08x, %d, %d): %08x, %d, not %08x", bits, c.first, c.last, got, e, most)
			}
		}
	}
}

// Promise 5.3: not below 1, not above the limit, nowhere cut at 256 bits, rounded down: numbers that are worked out by hand.
func TestNextEdges(t *testing.T) {
	for _, c := range []struct {
		bits, span, want uint32
	}{
		{0x03000001, 0, 0x01010000},
		{0x03000001, 479, 0x01010000},
		{0x03000001, 960, 0x01020000},
		{0x03000001, 959, 0x01010000},
		{0x03000003, 120, 0x01010000},
		{0x03000004, 120, 0x01010000},
		{0x03000007, 120, 0x01010000},
		{0x03000008, 120, 0x01020000},
		{0x03000001, 1920, 0x01040000},
		{0x03000020, 1920, 0x02008000},
		{0x207fffff, 479, 0x207fbbba},
		{0x207fffff, 480, 0x207fffff},
		{0x207fffff, 481, 0x207fffff},
		{0x207fffff, 960, 0x207fffff},
		{0x207fffff, 1919, 0x207fffff},
		{0x207fffff, 1920, 0x207fffff},
		{0x207fffff, 120, 0x201fffff},
		{0x20400000, 960, 0x207fffff},
		{0x20400000, 1920, 0x207fffff}, // just 2^256
		{0x20600000, 1280, 0x207fffff}, // just 2^256
		{0x20200000, 1919, 0x207feeee},
		{0x20200000, 1920, 0x207fffff},
		{0x201fffff, 1920, 0x207ffffc},
		{0x1d00ffff, 1920, 0x1d03fffc},
		{0x1d00ffff, 120, 0x1c3fffc0},
	} {
		if got, e := Next(c.bits, 1000, 1000+c.span); got != c.want || e != api.OK {
			t.Errorf("Next(%08x) of %d: %08x, %d, not %08x", c.bits, c.span, got, e, c.want)
		}
	}
}

// Promise 5.3: bits that may not be have no next ones.
func TestNextOfBadBits(t *testing.T) {
	for _, bits := range badBits() {
		for _, c := range edgeTimes() {
			if got, e := Next(bits, c.first, c.last); got != 0 || e != api.ErrBits {
				t.Fatalf("Next(%08x, %d, %d): %08x, %d", bits, c.first, c.last, got, e)
			}
		}
	}
}

// Promise 5.4: Next of a span as it is meant is Compact of the target, also where the bits are not in the one form.
func TestNextOfMeantSpan(t *testing.T) {
	for _, bits := range goodBits(24, 5000) {
		target, _ := Expand(bits)
		got, e := Next(bits, api.GenesisTime, api.GenesisTime+api.Retarget*api.Spacing)
		if got != Compact(target) || e != api.OK || !Form(got) {
			t.Fatalf("Next(%08x): %08x, %d, not %08x", bits, got, e, Compact(target))
		}
	}
}

// The chapter's example 1: the limit stays; and a fast span takes it to its fourth.
func TestExampleNext(t *testing.T) {
	if got, e := Next(api.LimitBits, 0, 1000000); got != api.LimitBits || e != api.OK {
		t.Errorf("Next(LimitBits, 0, 1000000): %08x, %d", got, e)
	}
	if got, e := Next(api.LimitBits, 0, 1); got != Compact(wide.Right(Limit(), 2)) || e != api.OK {
		t.Errorf("Next(LimitBits, 0, 1): %08x, %d", got, e)
	}
}
