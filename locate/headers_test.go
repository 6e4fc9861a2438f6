package locate

import (
	"math"
	"math/rand"
	"slices"
	"testing"

	"bedrock/api"
)

// ask asks for headers, and holds them against the model's.
func (w *world) ask(tip api.Hash, locator []api.Hash, stop api.Hash, most int) []api.Header {
	w.Helper()
	want, wantE := w.told(tip, locator, stop, most)
	got, e := Headers(w.x, tip, locator, stop, most)
	if !slices.Equal(got, want) || e != wantE {
		w.Fatalf("Headers, at most %d: %d, %d, not %d, %d", most, len(got), e, len(want), wantE)
	}
	spoil(got)
	return want
}

// Promise 15.2: headers with a stop anywhere, and as many as there are, or fewer.
func TestHeaders(t *testing.T) {
	w := newWorld(t)
	g := w.ids[0]
	a := w.grow(g, 20, 1)
	b := w.grow(a[9], 6, 2)
	tip, nowhere := a[19], api.Hash{1, 2, 3}
	at := []api.Hash{a[11], a[3], g}
	long := func(want int, l []api.Header) {
		t.Helper()
		if len(l) != want {
			t.Fatalf("%d headers, not %d", len(l), want)
		}
	}
	for range 2 { // once more behind all answers were written over
		long(8, w.ask(tip, at, api.Hash{}, 100))
		long(8, w.ask(tip, at, nowhere, math.MaxInt))
		long(8, w.ask(tip, at, tip, 100))
		long(4, w.ask(tip, at, a[15], 100))
		long(1, w.ask(tip, at, a[12], 100))
		long(8, w.ask(tip, at, a[11], 100)) // where it begins: ahead of the first one
		long(8, w.ask(tip, at, a[4], 100))
		long(8, w.ask(tip, at, g, 100))
		long(8, w.ask(tip, at, b[2], 100)) // in another chain, of a height that is told
		long(3, w.ask(a[14], at, a[17], 100))
		long(4, w.ask(tip, at, a[15], 4))
		long(3, w.ask(tip, at, a[15], 3))
		long(4, w.ask(tip, at, a[15], 5))
		long(0, w.ask(tip, at, a[15], 0))
		long(1, w.ask(tip, at, a[15], 1))
		long(8, w.ask(tip, at, nowhere, 8))
		long(7, w.ask(tip, at, nowhere, 7))
		long(0, w.ask(tip, []api.Hash{tip}, api.Hash{}, 100))
		long(20, w.ask(tip, []api.Hash{nowhere}, api.Hash{}, 100))
		long(20, w.ask(tip, []api.Hash{g}, api.Hash{}, 100))
		long(10, w.ask(tip, []api.Hash{b[5], a[9]}, api.Hash{}, 100))
		long(0, w.ask(g, at, tip, 100))
	}
}

// Promise 15.2: an empty locator asks for the header of stop alone, wherever in the tree it is.
func TestHeadersOfNoLocator(t *testing.T) {
	w := newWorld(t)
	g := w.ids[0]
	a := w.grow(g, 5, 1)
	b := w.grow(g, 3, 2)
	for _, locator := range [][]api.Hash{nil, {}} {
		for _, stop := range w.ids {
			for _, tip := range []api.Hash{g, a[2], a[4], b[2]} {
				for _, most := range []int{0, 1, 2, math.MaxInt} {
					if l := w.ask(tip, locator, stop, most); len(l) != min(most, 1) {
						t.Fatalf("%d headers", len(l))
					}
				}
			}
		}
		for _, most := range []int{0, 1, 9} {
			w.ask(a[4], locator, api.Hash{}, most)
			w.ask(a[4], locator, api.Hash{5}, most)
		}
	}
}

// Promise 15.2: what may not be; a tip that is not there comes first.
func TestHeadersRefused(t *testing.T) {
	w := newWorld(t)
	a := w.grow(w.ids[0], 5, 1)
	for _, locator := range [][]api.Hash{nil, {a[1]}, {{7}}} {
		for _, most := range []int{math.MinInt, -1, 0, 1} {
			for _, tip := range []api.Hash{a[4], {7}, {}} {
				want := api.OK
				if tip != a[4] {
					want = api.ErrNone
				} else if most < 0 {
					want = api.ErrArg
				}
				l, e := Headers(w.x, tip, locator, a[3], most)
				if e != want || e != api.OK && len(l) != 0 {
					t.Fatalf("at most %d: %d headers, %d, not %d", most, len(l), e, want)
				}
			}
		}
	}
}

// Promise 15.2: locators, stops and bounds by lots, in a tree with forks.
func TestHeadersByLots(t *testing.T) {
	w, lots := forked(t), rand.New(rand.NewSource(15))
	some := func() api.Hash {
		if lots.Intn(8) == 0 {
			return api.Hash{byte(lots.Intn(3))}
		}
		return w.ids[lots.Intn(len(w.ids))]
	}
	for range 4000 {
		tip, stop := some(), some()
		locator := w.locator(some())
		if lots.Intn(3) == 0 {
			locator = nil
			for range lots.Intn(4) {
				locator = append(locator, some())
			}
		}
		if chain := w.chains[tip]; len(chain) > 0 && lots.Intn(2) == 0 {
			stop = chain[lots.Intn(len(chain))]
		}
		w.ask(tip, locator, stop, lots.Intn(60)-2)
	}
}

// run is n headers that stand on one another and meet their targets, of bits that go by turns.
func run(n int, bits ...uint32) []api.Header {
	var l []api.Header
	for i := range n {
		h := api.Header{Version: uint32(i), Bits: bits[i%len(bits)]}
		if i > 0 {
			h.Prev = idOf(l[i-1])
		}
		l = append(l, mined(h, true))
	}
	return l
}

// linked is a run of which each fault is put in: l off the chain, b of bits that may not be, w that does not meet its target.
func linked(faults string) []api.Header {
	var l []api.Header
	for i, fault := range faults {
		h := api.Header{Version: uint32(i), Bits: api.LimitBits}
		if i > 0 {
			h.Prev = idOf(l[i-1])
		}
		switch fault {
		case 'l':
			h.Prev[5] ^= 1
		case 'b':
			h.Bits = 0x207fffff + 1
		case 'B':
			h.Bits, h.Prev[31] = 0, h.Prev[31]^1
		case 'W':
			h.Prev[0] ^= 1
		}
		if fault != 'b' && fault != 'B' {
			h = mined(h, fault != 'w' && fault != 'W')
		}
		l = append(l, h)
	}
	return l
}

// checkClaims holds Linked and Claims against the model, and tells the place and the error.
func checkClaims(t *testing.T, l []api.Header) (int, api.Errno) {
	t.Helper()
	apart := -1
	for i := len(l) - 1; i > 0; i-- {
		if l[i].Prev != idOf(l[i-1]) {
			apart = i
		}
	}
	if got := Linked(l); got != apart {
		t.Fatalf("Linked: %d, not %d", got, apart)
	}
	want, wantAt, wantE := worked(l)
	got, at, e := Claims(l)
	if got != want || at != wantAt || e != wantE {
		t.Fatalf("Claims: %x, %d, %d, not %x, %d, %d", got, at, e, want, wantAt, wantE)
	}
	return at, e
}

// Promise 15.3: headers without a fault, and the works of all of them.
func TestClaims(t *testing.T) {
	if Linked(nil) != -1 || Linked([]api.Header{}) != -1 || Linked([]api.Header{{}}) != -1 {
		t.Fatal("a fault of what has no two headers")
	}
	if Linked([]api.Header{{}, {}}) != 1 {
		t.Fatal("a header of zeros does not stand on another one")
	}
	for _, l := range [][]api.Header{nil, {}} {
		if work, at, e := Claims(l); work != (api.Wide{}) || at != 0 || e != api.OK {
			t.Fatalf("Claims of nothing: %x, %d, %d", work, at, e)
		}
	}
	if work, _, _ := Claims(run(3, api.LimitBits)); work != (api.Wide{6}) {
		t.Fatalf("%x", work)
	}
	for _, n := range []int{1, 2, 3, 100, 200} {
		checkClaims(t, run(n, api.LimitBits, 0x200fffff, 0x20123456, 0x1f7fffff, 0x21007fff))
	}
	if work, _, e := Claims(run(1, 0x1f00ffff)); work != (api.Wide{65537}) || e != api.OK {
		t.Fatalf("%x, %d", work, e)
	}
}

// Promise 15.3: each fault alone, and two of them, at the same place and at others.
func TestClaimsRefused(t *testing.T) {
	for faults, want := range map[string]struct {
		at int
		e  api.Errno
	}{
		"l....": {0, api.OK}, // the first one stands on whatever it tells
		".l...": {1, 150},
		"....l": {4, 150},
		"b....": {0, 50},
		"....b": {4, 50},
		"w....": {0, 1},
		"....w": {4, 1},
		".l.l.": {1, 150},
		".b.b.": {1, 50},
		".w.w.": {1, 1},
		".b.l.": {1, 50},
		".l.b.": {1, 150},
		"..B..": {2, 150}, // both at one place
		"B....": {0, 50},
		".w.l.": {3, 150},
		".w.b.": {3, 50},
		"w...b": {4, 50},
		".l.w.": {1, 150},
		".b.w.": {1, 50},
		"..W..": {2, 150},
		"W....": {0, 1},
		"wlb..": {1, 150},
		"wbl..": {1, 50},
		".wB..": {2, 150},
		"b":     {0, 50},
		"w":     {0, 1},
		"l":     {0, 0},
	} {
		at, e := checkClaims(t, linked(faults))
		if at != want.at || e != want.e {
			t.Fatalf("%s: %d, %d, not %d, %d", faults, at, e, want.at, want.e)
		}
	}
}

// Promise 15.3: runs of faults by lots.
func TestClaimsByLots(t *testing.T) {
	lots := rand.New(rand.NewSource(3))
	for range 3000 {
		faults := make([]byte, lots.Intn(9))
		for i := range faults {
			faults[i] = "lbBwW.........."[lots.Intn(15)]
		}
		checkClaims(t, linked(string(faults)))
	}
}

// Promise 15.3: bits of all forms that may not be, and those at the limit.
func TestClaimsOfBits(t *testing.T) {
	for _, bits := range []uint32{0, 1, 0x01003456, 0x00ffffff, 0x20ffffff, 0x207fffff, 0x20800000, 0x21007fff, 0x21008000, 0x2200007f, 0x22000080, 0xff000001, 0xffffffff} {
		h := api.Header{Bits: bits}
		if targetOf(bits) != nil {
			h = mined(h, true)
		}
		checkClaims(t, []api.Header{h})
	}
}
