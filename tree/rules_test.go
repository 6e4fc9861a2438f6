package tree

import (
	"slices"
	"testing"

	"bedrock/api"
)

// The errors of Add, in their order.
var inOrder = []api.Errno{api.ErrProof, api.ErrAlone, api.ErrBad, api.ErrAsked, api.ErrOld, api.ErrSoon, api.ErrMany}

// faulty is a header that has just the faults that are told, but for ErrMany, and the time of the clock; false, if there is none.
func faulty(x *Tree, good, bad api.Hash, faults []api.Errno) (api.Header, uint32, bool) {
	has := func(e api.Errno) bool { return slices.Contains(faults, e) }
	h := api.Header{Version: 77, Prev: good, Bits: api.LimitBits, Time: api.GenesisTime}
	if has(api.ErrBad) {
		h.Prev = bad
	}
	if has(api.ErrAlone) {
		if has(api.ErrBad) || has(api.ErrAsked) || has(api.ErrOld) { // there is nothing that these could be held against
			return h, 0, false
		}
		h.Prev = api.Hash{7}
	} else {
		h.Bits, h.Time = x.NextBits(h.Prev), x.Median(h.Prev)+1
	}
	if has(api.ErrAsked) {
		h.Bits--
	}
	if has(api.ErrOld) {
		h.Time--
	}
	now := h.Time - api.MaxFuture
	if has(api.ErrSoon) {
		now--
	}
	return mined(h, !has(api.ErrProof)), now, true
}

// subsets is all choices of the errors of Add.
func subsets() [][]api.Errno {
	var l [][]api.Errno
	for set := range 1 << len(inOrder) {
		var some []api.Errno
		for i, e := range inOrder {
			if set>>i&1 == 1 {
				some = append(some, e)
			}
		}
		l = append(l, some)
	}
	return l
}

// Promise 14.1: headers with no fault, with each one alone, and with any several at once: the first one in the order is told, and nothing is changed.
func TestAddErrors(t *testing.T) {
	b := newBoth(t)
	l := b.grow(first(), 13, 60, 1)
	bad := b.grow(l[2], 3, 60, 2)
	answers(t, b.bad(bad[1]), api.OK)
	tried := 0
	for _, faults := range subsets() {
		h, now, can := faulty(b.x, l[12], bad[2], faults)
		if slices.Contains(faults, api.ErrMany) || !can {
			continue
		}
		tried++
		if len(faults) == 0 {
			answers(t, b.clone().add(h, now), api.OK)
			continue
		}
		answers(t, b.add(h, now), faults[0])
		b.check()
	}
	if tried != 36 {
		t.Fatalf("tried %d choices of faults", tried)
	}
}

// full is a tree of MaxTree nodes: a chain, told from genesis on, and others on genesis, the last one of which is bad and no part of the chain.
func full(t *testing.T) (x *Tree, chain []api.Hash, bad api.Hash) {
	t.Helper()
	x, chain = New(), []api.Hash{first()}
	h := api.Header{Time: api.GenesisTime}
	for x.Len() < 20000 {
		h.Version++
		h.Prev = first()
		if len(chain) < 12000 {
			h.Prev = chain[len(chain)-1]
			h.Time += 69 + 3*(h.Version%2) // slow enough for all targets to be the limit
		}
		h.Bits, h.Nonce = x.NextBits(h.Prev), 0
		h = mined(h, true)
		if is, e := x.Add(h, late); !is || e != api.OK {
			t.Fatalf("Add to %d nodes: %v, %d", x.Len(), is, e)
		}
		bad = idOf(h)
		if len(chain) < 12000 {
			chain = append(chain, bad)
		}
	}
	if _, e := x.Bad(bad); e != api.OK {
		t.Fatalf("Bad: %d", e)
	}
	return x, chain, bad
}

// Promises 14.1, 14.7: a full tree takes nothing more, whatever is bad; that there are too many comes behind all other errors.
func TestAddMany(t *testing.T) {
	x, chain, bad := full(t)
	good := chain[len(chain)-1]
	all := x.All()
	for _, faults := range subsets() {
		h, now, can := faulty(x, good, bad, faults)
		if !slices.Contains(faults, api.ErrMany) || !can {
			continue
		}
		if is, e := x.Add(h, now); is || e != faults[0] {
			t.Fatalf("Add with the faults %d: %v, %d", faults, is, e)
		}
		if _, there := x.Get(idOf(h)); there || x.Len() != 20000 || x.BestHeader() != good {
			t.Fatalf("behind Add with the faults %d: %v, %d nodes", faults, there, x.Len())
		}
	}
	for _, id := range []api.Hash{first(), chain[1], good, bad} {
		n, _ := x.Get(id)
		if is, e := x.Add(n.Header, 0); is || e != api.OK {
			t.Fatalf("Add of what is there: %v, %d", is, e)
		}
	}
	h, _, _ := faulty(x, first(), bad, nil)
	if is, e := x.Clone().Add(h, late); is || e != api.ErrMany {
		t.Fatalf("Add to a copy: %v, %d", is, e)
	}
	if l, e := x.Bad(chain[1]); len(l) != 11999 || e != api.OK {
		t.Fatalf("Bad: %d ids, %d", len(l), e)
	}
	if is, e := x.Add(h, late); is || e != api.ErrMany {
		t.Fatalf("Add to a tree whose chain is bad: %v, %d", is, e)
	}
	if !slices.Equal(x.All(), all) {
		t.Fatal("All: others than before")
	}
}

// Promises 14.2, 14.3, 14.4: the greatest tree, its long chain and its genesis with many on it.
func TestManyNodes(t *testing.T) {
	x, chain, bad := full(t)
	tip := chain[len(chain)-1]
	if !slices.Equal(x.Chain(tip), chain) || len(x.Kids(first())) != 8001 || len(x.Tips()) != 8001 {
		t.Fatalf("Chain: %d ids, or others; Kids: %d, Tips: %d", len(x.Chain(tip)), len(x.Kids(first())), len(x.Tips()))
	}
	for height, want := range chain {
		for _, from := range []int{len(chain) - 1, len(chain) - 2, 10001, 8191, height} {
			id, ok := x.At(chain[from], height)
			if ok != (height <= from) || ok && id != want {
				t.Fatalf("At(of height %d, %d): %x, %v", from, height, id, ok)
			}
		}
		if id, ok := x.Fork(want, tip); id != want || !ok || !x.Above(tip, want) || x.Above(want, tip) != (want == tip) {
			t.Fatalf("Fork or Above at the height %d: %x, %v", height, id, ok)
		}
		if id, ok := x.Fork(want, bad); id != first() || !ok {
			t.Fatalf("Fork with another one: %x, %v", id, ok)
		}
	}
	for height := len(chain) - 1; height > 1; height-- {
		if l, e := x.Body(chain[height]); len(l) != 0 || e != api.OK {
			t.Fatalf("Body at the height %d: %d ids, %d", height, len(l), e)
		}
	}
	if l, e := x.Body(chain[1]); !slices.Equal(l, chain[1:]) || e != api.OK || x.Best() != tip {
		t.Fatalf("Body: %d ids, %d", len(l), e)
	}
	if n, _ := x.Get(tip); n.Turn != len(chain) || n.Height != len(chain)-1 || !n.Whole {
		t.Fatalf("Get of the tip: %+v", n)
	}
}

// Promise 14.1: bits that may not be are met by nothing.
func TestAddBitsThatMayNotBe(t *testing.T) {
	b := newBoth(t)
	b.grow(first(), 2, 60, 1)
	for _, bits := range []uint32{0, 1, 0x00ffffff, 0x01003456, 0x20800000, 0x20ffffff, 0x21008000, 0x217fffff, 0xff7fffff, late} {
		answers(t, b.add(api.Header{Prev: first(), Time: api.GenesisTime + 1, Bits: bits}, late), api.ErrProof)
		answers(t, b.add(api.Header{Prev: api.Hash{1}, Bits: bits}, 0), api.ErrProof)
	}
	for _, bits := range []uint32{0x1d00ffff, 0x03000001} { // these may be, and are hard to meet
		answers(t, b.add(api.Header{Prev: first(), Time: api.GenesisTime + 1, Bits: bits}, late), api.ErrProof)
	}
	b.check()
}

// Promises 14.1, 14.4: headers at the median time and one above it, on chains of up to MedianSpan nodes and more whose times go up and down.
func TestMedian(t *testing.T) {
	b := newBoth(t)
	id := first()
	for i, seconds := range []int{100, 900, -700, 5, 1, 3000, -2000, -500, 0, 40, 7, -30, 5000, -4000, 1, 1, 800, -700, 60, 0, 0, 0, 0, 0, 0, 90, -20, 10} {
		at := b.on(id, 0, 1)
		at.Time = b.m.median(b.m.find(id))
		answers(t, b.add(mined(at, true), late), api.ErrOld)
		at.Time--
		answers(t, b.add(mined(at, true), late), api.ErrOld)
		at.Time = 0
		answers(t, b.add(mined(at, true), late), api.ErrOld)
		at.Time = b.m.median(b.m.find(id)) + 1
		answers(t, b.clone().add(mined(at, true), late), api.OK)
		h := b.on(id, seconds, uint32(i))
		h.Time = max(h.Time, at.Time)
		h = mined(h, true)
		answers(t, b.add(h, late), api.OK)
		id = idOf(h)
		b.check()
	}
}

// Promise 14.4: the median of one, two and three times, and of more than MedianSpan, written out.
func TestMedianWrittenOut(t *testing.T) {
	b := newBoth(t)
	id := first()
	median := func(want int) {
		t.Helper()
		if got := b.x.Median(id); got != uint32(api.GenesisTime+want) {
			t.Fatalf("Median: %d seconds behind genesis, not %d", int(got)-api.GenesisTime, want)
		}
	}
	median(0)
	for i, x := range []struct{ time, median int }{
		{50, 50}, {90, 50}, {60, 60}, {61, 60}, {100, 61}, {62, 61}, {63, 62}, {64, 62}, {65, 63}, {66, 63}, // 11 times
		{67, 64}, // genesis is left out: 50 60 61 62 63 64 65 66 67 90 100
		{68, 65}, // 50 is left out
		{69, 65}, // 90 is
	} {
		h := b.on(id, 0, uint32(i))
		h.Time = uint32(api.GenesisTime + x.time)
		h = mined(h, true)
		answers(t, b.add(h, late), api.OK)
		id = idOf(h)
		median(x.median)
	}
}

// Promise 14.1: times at now and MaxFuture together and one above, also where that sum passes 32 bits.
func TestSoon(t *testing.T) {
	b := newBoth(t)
	id := b.grow(first(), 3, 60, 1)[2]
	for _, x := range []struct {
		time, now uint32
		want      api.Errno
	}{
		{api.GenesisTime + 240, 0, api.ErrSoon},
		{api.GenesisTime + 240, api.GenesisTime + 240, api.OK},
		{api.GenesisTime + 240, api.GenesisTime + 240 - 7199, api.OK},
		{api.GenesisTime + 240, api.GenesisTime + 240 - 7200, api.OK},
		{api.GenesisTime + 240, api.GenesisTime + 240 - 7201, api.ErrSoon},
		{api.GenesisTime + 240, late, api.OK},
		{late, late, api.OK},
		{late, late - 7199, api.OK},
		{late, late - 7200, api.OK},
		{late, late - 7201, api.ErrSoon},
		{late, 0, api.ErrSoon},
		{late, 7199, api.ErrSoon},
		{late - 1, late - 7199, api.OK},
		{late - 1, late - 7201, api.OK},
		{late - 1, late - 7202, api.ErrSoon},
		{1 << 31, 1<<31 - 7200, api.OK},
		{1 << 31, 1<<31 - 7201, api.ErrSoon},
	} {
		h := b.on(id, 0, 2)
		h.Time = x.time
		c := b.clone()
		answers(t, c.add(mined(h, true), x.now), x.want)
		c.check()
	}
}

// otherBits is bits other than those that are asked for, with which a header may meet its target.
func otherBits(asked uint32) []uint32 {
	l := []uint32{asked - 1, asked - 2, asked &^ 0xff, asked - 0x10000, 0x207fffff, 0x207ffffe, 0x201fffff, 0x206fffff, 0x1f7fffff}
	for more := uint32(1); more <= 2; more++ {
		if targetOf(asked+more) != nil {
			l = append(l, asked+more)
		}
	}
	return slices.DeleteFunc(l, func(bits uint32) bool { return bits == asked || targetOf(bits) == nil })
}

// Promises 14.1, 14.4: chains over several multiples of Retarget, fast, slow and as meant: at each height the bits that are asked for, and others.
func TestBits(t *testing.T) {
	for _, speeds := range [][]int{{60, 60, 60, 60}, {1, 300, 1, 68}, {40, 90, 25, 60}, {300, 300, 30, 45}, {68, 69, 70, 71}} {
		b := newBoth(t)
		id := first()
		for i := range 8*len(speeds) + 1 {
			for _, bits := range otherBits(b.m.asked(b.m.find(id))) {
				h := b.on(id, 60, 1)
				h.Bits = bits
				answers(t, b.add(mined(h, true), late), api.ErrAsked)
			}
			id = b.grow(id, 1, speeds[min(i/8, len(speeds)-1)], 1)[0]
		}
		b.check()
	}
}

// Promise 14.4: the bits behind one, two and three spans of Retarget, written out; a span has the times of its first and its last node.
func TestBitsWrittenOut(t *testing.T) {
	b := newBoth(t)
	asks := func(id api.Hash, want uint32) {
		t.Helper()
		if got := b.x.NextBits(id); got != want {
			t.Fatalf("NextBits: %x, not %x", got, want)
		}
	}
	l := b.grow(first(), 6, 1, 1)
	for _, id := range append(l, first()) {
		asks(id, 0x207fffff)
	}
	for _, x := range []struct {
		span int
		want uint32
	}{
		{7, 0x201fffff}, {119, 0x201fffff}, {120, 0x201fffff}, {121, 0x20204444}, {240, 0x203fffff}, {360, 0x205fffff}, {479, 0x207fbbba},
		{480, 0x207fffff}, {481, 0x207fffff}, {1920, 0x207fffff}, {1921, 0x207fffff}, {100000, 0x207fffff},
	} {
		asks(b.grow(l[5], 1, x.span-6, 2)[0], x.want)
	}
	seventh := b.grow(l[5], 1, 414, 3)[0] // 420 seconds behind genesis: 7/8 of the limit
	second := b.grow(seventh, 7, 60, 3)
	asks(second[6], 0x206fffff)
	asks(b.grow(second[6], 1, 60, 3)[0], 0x2061ffff) // 7/8 of that, as 8 nodes are 7 times 60 seconds apart
	asks(b.grow(second[6], 1, 60+1500, 3)[0], 0x207fffff)

	ahead := b.grow(seventh, 1, 5000, 4)[0]
	behind := b.grow(ahead, 1, -4900, 4)
	behind = b.grow(behind[0], 6, 60, 4)
	asks(behind[5], 0x201bffff) // the last time is below the first one: a fourth
}

// Promise 14.1: the same target in another form is not what is asked for.
func TestBitsInAnotherForm(t *testing.T) {
	b := newBoth(t)
	l := b.grow(first(), 6, 17, 1)
	l = b.grow(l[5], 1, 121-6*17, 1) // a span of 121 seconds
	l = b.grow(l[0], 7, 50, 1)
	l = b.grow(l[6], 1, 383-6*50, 1) // one of 383
	if got := b.x.NextBits(l[0]); got != 0x2019bf00 {
		t.Fatalf("NextBits: %x", got)
	}
	h := b.on(l[0], 60, 2)
	answers(t, b.clone().add(h, late), api.OK)
	h.Bits = 0x210019bf
	if targetOf(h.Bits).Cmp(targetOf(0x2019bf00)) != 0 {
		t.Fatal("the other form is another target")
	}
	answers(t, b.add(mined(h, true), late), api.ErrAsked)
	b.check()
}
