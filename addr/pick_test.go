package addr

import (
	"math"
	"math/rand"
	"testing"

	"bedrock/api"
)

// bookOf is the book with just this one, through its bytes.
func bookOf(t *testing.T, l ...api.Known) *Book {
	t.Helper()
	b, at, e := Decode(api.Keys{K0: 4}, wantBytes(l...))
	if e != api.OK {
		t.Fatal(at, e)
	}
	return b
}

// Promise 19.1: an address is terrible at each of the Words' bounds, and one beyond is not.
func TestTerrible(t *testing.T) {
	const top = math.MaxUint32
	for _, c := range []struct {
		time, last, tried uint32
		fails             int
		now               uint32
		want              bool
	}{
		{1600, 0, 0, 0, 1000, false}, // Time above now + 600
		{1601, 0, 0, 0, 1000, true},
		{600, 0, 0, 0, 0, false},
		{601, 0, 0, 0, 0, true},
		{top, 0, 0, 0, top - 600, false},
		{top, 0, 0, 0, top - 601, true},
		{top, 0, 0, 0, 0, true},
		{top, 0, 0, 0, top, false},
		{599, 0, 0, 0, top, true},       // now + 600 goes beyond 2^32
		{1000, 0, 0, 0, 2593000, false}, // Time more than MaxAge ahead of now
		{1000, 0, 0, 0, 2593001, true},
		{0, 0, 0, 0, 2592000, false},
		{0, 0, 0, 0, 2592001, true},
		{0, 0, 0, 0, 0, false},
		{0, 0, 0, 0, top, true},
		{top - 2592000, 0, 0, 0, top, false},
		{top - 2592001, 0, 0, 0, top, true},
		{top - 2591999, 0, 0, 0, top, false},
		{5000, 0, 0, 2, 5000, false}, // never answered, and Fails
		{5000, 0, 0, 3, 5000, true},
		{5000, 0, 0, 4, 5000, true},
		{5000, 0, 0, 1000, 5000, true},
		{5000, 1, 0, 3, 5000, false},
		{5000, 1, 0, 1000, 5000, false},
		{5000, 5000, 0, 3, 5000, false},
		{604800, 1, 0, 10, 604800, false}, // Last more than a week ahead of now, and Fails
		{604801, 1, 0, 10, 604801, false},
		{604802, 1, 0, 10, 604802, true},
		{604801, 1, 0, 1000, 604801, false},
		{604803, 1, 0, 9, 604803, false},
		{604803, 1, 0, 11, 604803, true},
		{604803, 1, 0, 3, 604803, false},
		{604803, 0, 0, 3, 604803, true},
		{top, top - 604800, 0, 10, top, false},
		{top, top - 604801, 0, 10, top, true},
		{top, top, 0, 10, 0, true}, // but for its Time
		{500, top, 0, 10, 0, false},
		{500, top, 0, 1000, top - 5, true}, // its Time
		{top - 5, top, 0, 1000, top - 5, false},
		{5000, 0, 4941, 3, 5000, false}, // tried just now
		{5000, 0, 4940, 3, 5000, true},
		{5000, 0, 4939, 3, 5000, true},
		{5000, 0, 5000, 3, 5000, false},
		{5000, 0, 9000, 3, 5000, false},
		{5000, 0, 1, 3, 5000, true},
		{60, 0, 1, 3, 60, false},
		{60, 0, 1, 3, 61, true},
		{60, 0, 0, 3, 59, true}, // never tried
		{60, 0, 0, 3, 0, true},
		{1601, 0, 1000, 0, 1000, false},
		{1661, 0, 1000, 0, 1060, true},
		{1660, 0, 1000, 0, 1060, false},
		{0, 0, 2592001, 0, 2592001, false},
		{0, 0, 2591942, 0, 2592001, false},
		{0, 0, 2591941, 0, 2592001, true},
		{604803, 1, 604803, 10, 604803, false},
		{604803, 1, 604743, 10, 604803, true},
		{top, 0, top - 59, 3, top, false}, // Tried and 60 together near 2^32
		{top, 0, top - 60, 3, top, true},
		{top, 0, top, 3, top, false},
		{top, 0, top, 3, top - 1, false},
		{0, 0, top, 3, 0, false},
		{0, 0, top - 30, 3, 29, false},
		{0, 0, top - 30, 3, 30, false},
	} {
		for _, inTried := range []bool{false, true} {
			known := api.Known{Net: net(1, 1), Source: net(2, 2), Last: c.last, Tried: c.tried, Fails: c.fails, InTried: inTried}
			known.Net.Time = c.time
			b := bookOf(t, known)
			if got := b.Terrible(net(1, 1), c.now); got != c.want {
				t.Errorf("%+v: %v", c, got)
			}
			if _, is := b.Pick(3, c.now, inTried); is == c.want {
				t.Errorf("%+v: Pick: %v", c, is)
			}
			if some := b.Some(3, c.now, 5); len(some) == 1 == c.want {
				t.Errorf("%+v: Some: %v", c, some)
			}
			if b.Terrible(net(1, 2), c.now) {
				t.Errorf("%+v: one that is not kept is terrible", c)
			}
			if wantTerrible(known, c.now) != c.want {
				t.Errorf("%+v: the model differs", c)
			}
		}
	}
}

// lotsFor is lots all around so many places, and far ones.
func lotsFor(many int) []uint64 {
	l := []uint64{1 << 32, 1<<63 - 1, 1 << 63, math.MaxUint64 - 1, math.MaxUint64}
	for lot := range many + 3 {
		l = append(l, uint64(lot))
	}
	return l
}

// Promise 19.4: Pick goes around from the lot's place, past all that are terrible, and past the new ones where that is asked.
func TestPick(t *testing.T) {
	for _, p := range somePairs(t) {
		for _, now := range []uint32{0, clockNow - 500000, clockNow - 40, clockNow, clockNow + 1, clockNow + 864000, clockNow + 864001, clockNow + 1728001, clockNow + 2592001, 4294967295} {
			for _, lot := range lotsFor(len(p.m.all())) {
				checkAsks(t, p.b, p.m, now, lot, 1000)
			}
		}
		checkBook(t, p.b, p.m)
	}
}

// Promise 19.4: of no address, of terrible ones alone, and of new ones alone where tried is asked, Pick is the zero address and false.
func TestPickNone(t *testing.T) {
	for _, p := range somePairs(t) {
		for _, known := range p.m.all() {
			if known.InTried {
				p.b.Drop(known.Net)
			}
		}
		for _, lot := range lotsFor(10) {
			if a, is := p.b.Pick(lot, clockNow, true); is || a != (api.Net{}) {
				t.Fatal(a, is)
			}
			if a, is := p.b.Pick(lot, 4294967295, false); is || a != (api.Net{}) {
				t.Fatal(a, is)
			}
			if some := p.b.Some(lot, 4294967295, 10); len(some) > 0 {
				t.Fatal(some)
			}
		}
	}
}

// Promise 19.4: by all lots each one that fits is picked, as it is kept.
func TestPickEach(t *testing.T) {
	p := somePair(t, rand.New(rand.NewSource(6)), 300)
	all := p.b.All()
	picked := map[api.Net]int{}
	fit := 0
	for lot, known := range all {
		a, is := p.b.Pick(uint64(lot), clockNow, false)
		if !is {
			t.Fatal("none")
		}
		picked[a]++
		if !p.b.Terrible(known.Net, clockNow) {
			fit++
			if a != known.Net {
				t.Fatalf("lot %d: %v, not %v", lot, a, known.Net)
			}
		}
	}
	if len(picked) != fit || fit == len(all) || fit == 0 {
		t.Errorf("%d of %d, %d in all", len(picked), fit, len(all))
	}
}

// Promise 19.4: Some tells at most most, and at most one fourth, rounded up, none where most is below 1.
func TestSome(t *testing.T) {
	for _, p := range somePairs(t) {
		for _, now := range []uint32{clockNow, clockNow + 864001} {
			fit := 0
			for _, known := range p.m.all() {
				if !wantTerrible(known, now) {
					fit++
				}
			}
			for _, most := range []int{math.MinInt, -1, 0, 1, 2, fit/4 - 1, fit / 4, fit/4 + 1, fit/4 + 2, fit, 1000, math.MaxInt} {
				for _, lot := range lotsFor(fit) {
					some := p.b.Some(lot, now, most)
					if !sameList(some, p.m.some(lot, now, most)) {
						t.Fatalf("Some(%d, %d, %d): %v", lot, now, most, some)
					}
					if len(some) != max(min(most, (fit+3)/4), 0) {
						t.Fatalf("%d of %d, most %d", len(some), fit, most)
					}
				}
			}
		}
	}
}

// Promise 19.4: one fourth, rounded up, of one to nine.
func TestFourth(t *testing.T) {
	b := New(api.Keys{K0: 2})
	want := []int{0, 1, 1, 1, 1, 2, 2, 2, 2, 3}
	for group := uint16(1); ; group++ {
		n, _ := b.Len()
		if n > 9 {
			return
		}
		if got := len(b.Some(7, 1000000, 100)); got != want[n] {
			t.Errorf("of %d: %d", n, got)
		}
		b.Add(net(group, 1), net(group, 1), 1000000)
	}
}
