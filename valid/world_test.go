package valid

import (
	"math/rand"
	"slices"
	"strings"
	"testing"

	"bedrock/api"
	"bedrock/block"
)

// world is a set and the model of it.
type world struct {
	*testing.T
	c *Coins
	m model
}

// genesis is the first block.
func genesis() api.Block { return block.Genesis() }

// newWorld is a set as it begins.
func newWorld(t *testing.T) *world {
	w := &world{t, NewCoins(), model{tip: idOf(genesis().Header)}}
	w.same()
	return w
}

// risen is the set of a model, by its bytes.
func risen(t *testing.T, m model) *world {
	t.Helper()
	c, e := Of(m.text())
	if e != api.OK {
		t.Fatal("Of of a model's bytes", e)
	}
	w := &world{t, c, m}
	w.same()
	return w
}

// same holds all that the set tells against the model.
func (w *world) same() {
	w.Helper()
	tip, height := w.c.Tip()
	if tip != w.m.tip || height != w.m.height || w.c.Len() != len(w.m.spots) {
		w.Fatalf("Tip and Len: %x %d, %d, not %x %d, %d", tip, height, w.c.Len(), w.m.tip, w.m.height, len(w.m.spots))
	}
	sorted, total := w.m.sorted(), uint64(0)
	points := w.c.All()
	if len(points) != len(sorted) {
		w.Fatal("All tells", len(points), "not", len(sorted))
	}
	for i, s := range sorted {
		coin, there := w.c.Get(s.point)
		if points[i] != s.point || coin != s.coin || !there {
			w.Fatalf("All and Get of %d: %v, %v %v, not %v", i, points[i], coin, there, s)
		}
		total += s.coin.Out.Value
	}
	if got := w.c.Total(); got != total {
		w.Fatal("Total", got, "not", total)
	}
	if s := w.m.text(); w.c.Bytes() != s || w.c.Sum() != digest(s) {
		w.Fatal("Bytes or Sum")
	}
}

// absent is that nothing stands at a point.
func (w *world) absent(p api.Point) {
	w.Helper()
	if coin, there := w.c.Get(p); there || coin != (api.Coin{}) {
		w.Fatal("Get of what is not there", coin, there)
	}
}

// connects is Check, Would and Connect of a block, each held against the model.
func (w *world) connects(b api.Block, height int) (api.Undo, api.Errno) {
	w.Helper()
	want := wantConnect(w.m, b, height)
	if e := Check(b); e != wantCheck(b) {
		w.Fatal("Check", e, "not", wantCheck(b))
	}
	fees, place, e := w.c.Would(b, height)
	wantFees := uint64(0)
	if want.fault == 0 {
		wantFees = want.fees.Uint64()
	}
	if fees != wantFees || place != want.place || e != want.fault {
		w.Fatal("Would", fees, place, e, "not", wantFees, want.place, want.fault)
	}
	w.same()
	u, e := w.c.Connect(b, height)
	if e != want.fault || !slices.Equal(u.Spent, want.spent) {
		w.Fatalf("Connect: %v %d, not %v %d", u, e, want.spent, want.fault)
	}
	w.m = want.set
	w.same()
	return u, e
}

// refuses is that a block may not be connected, at a place and with an error.
func (w *world) refuses(what string, b api.Block, height, place int, want api.Errno) {
	w.Helper()
	if _, at, e := w.c.Would(b, height); at != place || e != want {
		w.Errorf("Would of %s: %d %d, not %d %d", what, at, e, place, want)
	}
	if _, e := w.connects(b, height); e != want {
		w.Errorf("Connect of %s: %d, not %d", what, e, want)
	}
}

// takes is that a block is connected.
func (w *world) takes(b api.Block, height int) api.Undo {
	w.Helper()
	u, e := w.connects(b, height)
	if e != api.OK {
		w.Fatal("Connect", height, e)
	}
	return u
}

// disconnects is Disconnect of a block, held against the model.
func (w *world) disconnects(b api.Block, u api.Undo, height int) api.Errno {
	w.Helper()
	want, wantE := wantDisconnect(w.m, b, u, height)
	if e := w.c.Disconnect(b, u, height); e != wantE {
		w.Fatal("Disconnect", e, "not", wantE)
	}
	w.m = want
	w.same()
	return wantE
}

// base is a coinbase of a height that pays so much, to nobody's lock.
func base(height int, values ...uint64) api.Tx {
	t := api.Tx{Version: 1, Ins: []api.In{{Point: null, Key: four(uint32(height))}}}
	for _, v := range values {
		t.Outs = append(t.Outs, api.Out{Value: v})
	}
	return t
}

// sealed is a block of transactions with their root.
func sealed(prev api.Hash, time uint32, txs ...api.Tx) api.Block {
	root, _ := rootOf(txs...)
	return api.Block{Header: api.Header{Version: 1, Prev: prev, Root: root, Time: time}, Txs: txs}
}

// next is a block on the tip, of a coinbase that pays 1 and other transactions.
func (w *world) next(txs ...api.Tx) (api.Block, int) {
	height := w.m.height + 1
	return sealed(w.m.tip, 1000, append([]api.Tx{base(height, 1)}, txs...)...), height
}

// spends is a transaction of empty keys that spends points, and pays values to nobody's lock.
func spends(points []api.Point, values ...uint64) api.Tx {
	t := api.Tx{Version: 1}
	for _, p := range points {
		t.Ins = append(t.Ins, api.In{Point: p, Sequence: 4294967295})
	}
	for _, v := range values {
		t.Outs = append(t.Outs, api.Out{Value: v})
	}
	return t
}

// out is the point of a transaction's output.
func out(t api.Tx, i int) api.Point { return api.Point{Tx: txID(t), Index: uint32(i)} }

// point is a point that is like no other one with another number.
func point(n int) api.Point {
	return api.Point{Tx: api.Hash{0: byte(n % 5), 1: byte(n), 31: 1}, Index: uint32(n * 7)}
}

// plain is a coin without a lock, not of a coinbase.
func plain(value uint64, height int) api.Coin {
	return api.Coin{Out: api.Out{Value: value}, Height: height}
}

// stock is a set of n coins of 100 each at point(0) and so on, at a height.
func stock(n, height int) model {
	m := model{tip: api.Hash{5: 5}, height: height}
	for i := range n {
		m = m.with(point(i), plain(100, height/2))
	}
	return m
}

// lotText is a text of at most most bytes by lots.
func lotText(lots *rand.Rand, most int) string {
	b := make([]byte, lots.Intn(most+1))
	lots.Read(b)
	return string(b)
}

// zeros is so many bytes 0.
func zeros(n int) string { return strings.Repeat("\x00", n) }
