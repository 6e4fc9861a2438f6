package tree

import (
	"math/rand"
	"slices"
	"testing"

	"bedrock/api"
)

// some is the id of a node by lot, rather of the later ones, or, now and then, one that is not there.
func (b *both) some(lots *rand.Rand) api.Hash {
	n := len(b.m.l)
	switch lots.Intn(12) {
	case 0:
		return api.Hash{byte(lots.Intn(256)), 1}
	case 1, 2, 3:
		return b.m.l[lots.Intn(n)].id
	}
	return b.m.l[n-1-lots.Intn(min(n, 6))].id
}

// drawn is a header on some node: most may be added, some have other bits or another time, or do not meet their target.
func (b *both) drawn(lots *rand.Rand) (api.Header, uint32) {
	id := b.some(lots)
	n, _ := b.x.Get(id)
	h := api.Header{Version: lots.Uint32(), Prev: id, Bits: b.x.NextBits(id), Time: n.Header.Time + uint32(lots.Intn(130))}
	if h.Bits == 0 {
		h.Bits = api.LimitBits
	}
	h.Root[lots.Intn(32)] = byte(lots.Intn(256))
	switch lots.Intn(16) {
	case 0:
		h.Time = b.x.Median(id) + uint32(lots.Intn(2))
	case 1:
		h.Time += uint32(lots.Intn(3000))
	case 2:
		h.Time -= uint32(lots.Intn(600))
	case 3:
		h.Bits -= uint32(lots.Intn(2))
	case 4:
		h.Bits = []uint32{api.LimitBits, n.Header.Bits, h.Bits - 0x10000}[lots.Intn(3)]
	}
	now := h.Time - 7300 + uint32(lots.Intn(2000))
	if targetOf(h.Bits) == nil {
		return h, now
	}
	return mined(h, lots.Intn(20) > 0), now
}

// follows asks for what is always so, of the tree alone; headers is all that were handed in.
func (b *both) follows(headers map[api.Header]bool) {
	b.Helper()
	all := b.x.All()
	if len(all) > 20000 || len(all) != b.x.Len() || all[0] != first() {
		b.Fatalf("%d nodes, or another first one", len(all))
	}
	for order, id := range all {
		n, ok := b.x.Get(id)
		if !ok || n.ID != id || n.Order != order || idOf(n.Header) != id || !meets(n.Header) {
			b.Fatalf("Get: %+v, %v", n, ok)
		}
		if order == 0 {
			continue
		}
		on, there := b.x.Get(n.Header.Prev)
		if !headers[n.Header] || !there || on.Order >= order || n.Height != on.Height+1 {
			b.Fatalf("a node that was not handed in, or stands on nothing: %+v", n)
		}
		if slices.Compare(highFirst(n.Work), highFirst(on.Work)) <= 0 {
			b.Fatalf("the work %x is not above %x", n.Work, on.Work)
		}
		if n.Whole && (!n.Body || !on.Whole || on.Turn >= n.Turn) || n.Whole != (n.Turn > 0) || on.Bad && !n.Bad {
			b.Fatalf("%+v stands on %+v", n, on)
		}
	}
}

// highFirst is the words of a number from the highest on.
func highFirst(w api.Wide) []uint64 { return []uint64{w[3], w[2], w[1], w[0]} }

// Promises 14.1 to 14.7: trees by lots, and copies of them, held against the model all the way.
func TestByLots(t *testing.T) {
	told := map[api.Errno]int{}
	for seed := range 60 {
		lots := rand.New(rand.NewSource(int64(seed)))
		trees := []*both{newBoth(t)}
		handed := []map[api.Header]bool{{}}
		often := 3 + lots.Intn(40) // how seldom something is bad
		for step := range 220 {
			i := lots.Intn(len(trees))
			b := trees[i]
			switch lot := lots.Intn(often + 24); {
			case lot < 12+often/2:
				h, now := b.drawn(lots)
				handed[i][h] = true
				told[b.add(h, now)]++
			case lot < 22+often:
				b.body(b.some(lots))
			case lot < 23+often:
				b.bad(b.some(lots))
			case len(trees) < 3:
				seen := map[api.Header]bool{}
				for h := range handed[i] {
					seen[h] = true
				}
				trees, handed = append(trees, b.clone()), append(handed, seen)
			}
			if step%37 == 0 {
				b.check()
			}
		}
		for i, b := range trees {
			b.check()
			b.checkPairs()
			b.follows(handed[i])
		}
	}
	for _, e := range []api.Errno{api.OK, api.ErrProof, api.ErrAlone, api.ErrBad, api.ErrAsked, api.ErrOld, api.ErrSoon} {
		if told[e] < 20 {
			t.Fatalf("the lots are no good: %d was told %d times", e, told[e])
		}
	}
}

// Promise 14.7: a tree that is handed far more headers than may be: it keeps MaxTree of them, all of which were handed in.
func TestFollowsMany(t *testing.T) {
	x, _, _ := full(t)
	handed := map[api.Header]bool{}
	for _, id := range x.All() {
		n, _ := x.Get(id)
		handed[n.Header] = true
	}
	b := &both{t, x, nil}
	b.follows(handed)
	for i := range 300 {
		if is, e := x.Add(b.on(first(), 1000, uint32(1<<20+i)), late); is || e != api.ErrMany {
			t.Fatalf("Add: %v, %d", is, e)
		}
	}
	b.follows(handed)
}
