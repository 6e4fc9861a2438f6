package valid

import (
	"math"
	"math/rand"
	"slices"
	"testing"

	"bedrock/api"
	"bedrock/tx"
)

// The chapter's example.
func TestExample(t *testing.T) {
	w := newWorld(t)
	if tip, height := w.c.Tip(); w.c.Len() != 0 || height != 0 || tip != idOf(genesis().Header) {
		t.Error("NewCoins", w.c.Len(), height)
	}
	first := base(1, 5000)
	w.takes(sealed(w.m.tip, 0, first), 1)
	if w.c.Len() != 1 {
		t.Error("Len", w.c.Len())
	}
	w.takes(sealed(w.m.tip, 0, base(2, 5000)), 2)
	w.takes(sealed(w.m.tip, 0, base(3, 5000)), 3)
	spender := spends([]api.Point{out(first, 0)}, 5000)
	w.refuses("what is young", sealed(w.m.tip, 0, base(4, 5000), spender), 4, 1, api.ErrYoung)
	w.takes(sealed(w.m.tip, 0, base(4, 5000)), 4)
	w.takes(sealed(w.m.tip, 0, base(5, 5000), spender), 5)
}

// Promises 16.2 and 16.4: the set as it begins, of which nothing of genesis is.
func TestNewCoins(t *testing.T) {
	w := newWorld(t)
	first := genesis().Txs[0]
	w.absent(out(first, 0))
	w.absent(api.Point{})
	w.absent(null)
	if w.c.Total() != 0 || len(w.c.All()) != 0 || len(w.c.Bytes()) != 37 {
		t.Error("Total, All, Bytes", w.c.Total(), len(w.c.All()), len(w.c.Bytes()))
	}
	b, height := w.next(spends([]api.Point{out(first, 0)}, 5000))
	w.refuses("what genesis pays", b, height, 1, api.ErrSpent)
}

// Promise 16.4: Get of what stands beside a coin.
func TestGet(t *testing.T) {
	w := risen(t, stock(20, 9).with(null, plain(1, 1)).with(api.Point{}, plain(0, 0)))
	for i := range 20 {
		for _, p := range []api.Point{point(i), point(i), point(i)} {
			p.Index++
			w.absent(p)
			p.Index -= 2
			w.absent(p)
			p.Index++
			p.Tx[i]++
			w.absent(p)
		}
	}
	if coin, there := w.c.Get(null); coin != plain(1, 1) || !there {
		t.Error("Get of 32 zeros and 4294967295", coin, there)
	}
	if coin, there := w.c.Get(api.Point{}); coin != plain(0, 0) || !there {
		t.Error("Get of zeros", coin, there)
	}
}

// Promise 16.4: points in order: by each byte of the id from the first one on, then by the place as a number.
func TestAllInOrder(t *testing.T) {
	lots := rand.New(rand.NewSource(164))
	for range 20 {
		m := model{height: 7}
		for range lots.Intn(60) {
			var p api.Point
			p.Tx[[]int{0, 1, 15, 31}[lots.Intn(4)]] = byte(lots.Intn(3)) * 127
			p.Index = []uint32{0, 1, 255, 256, 65536, 1 << 31, math.MaxUint32, lots.Uint32()}[lots.Intn(8)]
			m = m.with(p, plain(lots.Uint64()%1000001, lots.Intn(8)))
		}
		w := risen(t, m)
		points := w.c.All()
		for i := 1; i < len(points); i++ {
			if !tx.Less(points[i-1], points[i]) {
				t.Fatal("All is not in order")
			}
		}
	}
	list := []api.Point{{Index: 2}, {Index: 256}, {Tx: api.Hash{31: 1}}, {Tx: api.Hash{31: 2}, Index: 1}, {Tx: api.Hash{0: 1}}, {Tx: api.Hash{0: 255}}}
	m := model{height: 7}
	for _, i := range []int{3, 0, 5, 1, 4, 2} {
		m = m.with(list[i], plain(1, 1))
	}
	if got := risen(t, m).c.All(); !slices.Equal(got, list) {
		t.Error("All", got)
	}
}

// Promise 16.4: the total is modulo 2^64.
func TestTotal(t *testing.T) {
	hollow := api.Block{Txs: []api.Tx{spends([]api.Point{point(1), point(2), point(3)})}}
	w := risen(t, model{tip: idOf(hollow.Header), height: 1}.with(point(4), plain(7, 0)))
	w.disconnects(hollow, api.Undo{Spent: []api.Coin{plain(math.MaxUint64, 0), plain(3, 0), plain(1<<63, 0)}}, 1)
	if got := w.c.Total(); got != 1<<63+9 {
		t.Error("Total", got)
	}
}

// Promise 16.6: each call on nil Coins.
func TestNil(t *testing.T) {
	var c *Coins
	b := sealed(api.Hash{}, 0, base(1, 5))
	for _, height := range []int{-1, 0, 1} {
		for _, x := range []api.Block{b, {}, genesis()} {
			if u, e := c.Connect(x, height); len(u.Spent) != 0 || e != api.ErrArg {
				t.Error("Connect", u, e)
			}
			if fees, place, e := c.Would(x, height); fees != 0 || place != 0 || e != api.ErrArg {
				t.Error("Would", fees, place, e)
			}
			if e := c.Disconnect(x, api.Undo{}, height); e != api.ErrArg {
				t.Error("Disconnect", e)
			}
		}
	}
	if coin, there := c.Get(api.Point{}); coin != (api.Coin{}) || there {
		t.Error("Get", coin, there)
	}
	if tip, height := c.Tip(); tip != (api.Hash{}) || height != 0 {
		t.Error("Tip", tip, height)
	}
	if c.Len() != 0 || c.Total() != 0 || len(c.All()) != 0 || c.Bytes() != "" || c.Clone() != nil {
		t.Error("Len, Total, All, Bytes or Clone")
	}
	if c.Sum() != digest("") {
		t.Error("Sum", c.Sum())
	}
}

// Promise 16.6: a clone is the same, and goes its own way, and so does what it was made of.
func TestClone(t *testing.T) {
	x := newUndoing(t)
	for turn := range 2 {
		w := risen(t, x.after)
		other := &world{t, w.c.Clone(), w.m}
		other.same()
		if turn > 0 {
			w, other = other, w
		}
		w.disconnects(x.b, x.u, x.height)
		other.same()
		b, height := w.next(spends([]api.Point{point(0), point(4)}, 3))
		w.takes(b, height)
		other.same()
		b, height = other.next(spends([]api.Point{point(3)}, 2), spends([]api.Point{point(4)}, 2))
		other.takes(b, height)
		w.same()
		third := &world{t, other.c.Clone(), other.m}
		b, height = third.next()
		third.takes(b, height)
		other.same()
		w.same()
	}
	new := newWorld(t)
	again := &world{t, new.c.Clone(), new.m}
	b, height := again.next()
	again.takes(b, height)
	new.same()
	new.takes(b, height)
}

// Promise 16.6: which ids have something left goes its own way, too.
func TestCloneCounts(t *testing.T) {
	a := spends([]api.Point{point(0)}, 60)
	m := stock(3, 20).with(api.Point{Tx: txID(a), Index: 9}, plain(1, 1))
	w := risen(t, m)
	other := &world{t, w.c.Clone(), w.m}
	b, height := w.next(spends([]api.Point{{Tx: txID(a), Index: 9}}, 1))
	w.takes(b, height)
	again, height := other.next(a)
	other.refuses("an id of which one is there", again, height, 1, api.ErrAgain)
	b, height = w.next(a)
	w.takes(b, height)
}

// Rule R4: no two answers share memory, spare room with it.
func TestAllMemory(t *testing.T) {
	w := risen(t, stock(20, 9))
	a, b := w.c.All(), w.c.All()
	clear(a[:cap(a)])
	if want := w.m.sorted(); b[0] != want[0].point || b[19] != want[19].point {
		t.Error("two lists share memory")
	}
	w.same()
}
