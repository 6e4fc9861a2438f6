package valid

import (
	"math"
	"slices"
	"strings"
	"testing"

	"bedrock/api"
)

// undoing is a block that was connected, its undo, and the set then; the block spends point(0), point(1), an output of its own, and point(2).
type undoing struct {
	before, after model
	b             api.Block
	u             api.Undo
	height        int
}

func newUndoing(t *testing.T) undoing {
	t.Helper()
	w := risen(t, stock(5, 20))
	before := w.m
	a := spends([]api.Point{point(0), point(1)}, 60, 40)
	b, height := w.next(a, spends([]api.Point{out(a, 1), point(2)}, 7))
	u := w.takes(b, height)
	return undoing{before, w.m, b, u, height}
}

// tells is Disconnect of a block with an undo from a set: its error, with which nothing is changed, or OK.
func (x undoing) tells(t *testing.T, what string, m model, b api.Block, u api.Undo, height int, want api.Errno) {
	t.Helper()
	if e := risen(t, m).disconnects(b, u, height); e != want {
		t.Errorf("Disconnect of %s: %d, not %d", what, e, want)
	}
}

// Promises 16.3 and 16.7: what was made is gone, what was spent is back, the tip is the one ahead.
func TestDisconnect(t *testing.T) {
	x := newUndoing(t)
	w := risen(t, x.after)
	if e := w.disconnects(x.b, x.u, x.height); e != api.OK {
		t.Fatal("Disconnect", e)
	}
	if tip, height := w.c.Tip(); tip != x.before.tip || height != 20 || w.c.Bytes() != x.before.text() {
		t.Error("the set is not as it was", height)
	}
	for i := range 5 {
		if coin, there := w.c.Get(point(i)); coin != plain(100, 10) || !there {
			t.Error("Get", coin, there)
		}
	}
	w.takes(x.b, x.height)
}

// Promise 16.3: another block than the tip, another height, and genesis.
func TestDisconnectTip(t *testing.T) {
	x := newUndoing(t)
	for _, height := range []int{20, 22, 0, 1, -21, math.MinInt, math.MaxInt, 21 + 1<<32} {
		x.tells(t, "another height", x.after, x.b, x.u, height, api.ErrTip)
	}
	other := x.b
	for _, spoil := range []func(h *api.Header){
		func(h *api.Header) { h.Version++ },
		func(h *api.Header) { h.Prev[0]++ },
		func(h *api.Header) { h.Root[31]++ },
		func(h *api.Header) { h.Time++ },
		func(h *api.Header) { h.Bits++ },
		func(h *api.Header) { h.Nonce++ },
	} {
		other.Header = x.b.Header
		spoil(&other.Header)
		x.tells(t, "another block", x.after, other, x.u, x.height, api.ErrTip)
		x.tells(t, "another block, with another undo", x.after, other, api.Undo{}, x.height, api.ErrTip)
	}
	x.tells(t, "the one ahead", x.before, x.b, x.u, x.height, api.ErrTip)
	x.tells(t, "the one ahead, by its height", x.before, x.b, x.u, 20, api.ErrTip)
	w := newWorld(t)
	first := api.Block{Header: api.Header{Version: 1}}
	x.tells(t, "a tip of height 0", model{tip: idOf(first.Header)}, first, api.Undo{}, 0, api.ErrTip)
	for _, height := range []int{0, 1, -1} {
		if e := w.disconnects(genesis(), api.Undo{}, height); e != api.ErrTip {
			t.Error("Disconnect of genesis", e)
		}
	}
}

// Promise 16.3: an output that is not there, or is another one.
func TestDisconnectOutputs(t *testing.T) {
	x := newUndoing(t)
	points := []api.Point{out(x.b.Txs[0], 0), out(x.b.Txs[1], 0), out(x.b.Txs[2], 0)}
	for i, p := range points {
		coin := x.after.spots[x.after.find(p)].coin
		x.tells(t, "an output that is not there", x.after.without(p), x.b, x.u, x.height, api.ErrUndo)
		for _, spoil := range []func(c *api.Coin){
			func(c *api.Coin) { c.Height-- },
			func(c *api.Coin) { c.Height = 0 },
			func(c *api.Coin) { c.Coinbase = !c.Coinbase },
			func(c *api.Coin) { c.Out.Value++ },
			func(c *api.Coin) { c.Out.Value-- },
			func(c *api.Coin) { c.Out.Lock = "l" },
		} {
			other := coin
			spoil(&other)
			x.tells(t, "an output that is another one", x.after.with(p, other), x.b, x.u, x.height, api.ErrUndo)
		}
		if x.after.spots[x.after.find(p)].coin.Coinbase != (i == 0) {
			t.Error("the coinbase")
		}
	}
	own := out(x.b.Txs[1], 1)
	w := risen(t, x.after.with(own, plain(3, 4))) // what stands where an output stood that the block spent itself does not matter
	if e := w.disconnects(x.b, x.u, x.height); e != api.OK || !w.m.has(own) {
		t.Error("Disconnect", e)
	}
	high := x.after
	high.height++
	x.tells(t, "a height above", high, x.b, x.u, x.height, api.ErrTip)
}

// Promise 16.3: too few coins, too many, none.
func TestDisconnectCoins(t *testing.T) {
	x := newUndoing(t)
	if len(x.u.Spent) != 3 {
		t.Fatal("an undo of", len(x.u.Spent))
	}
	for n := range 10 {
		var u api.Undo
		for i := range n {
			u.Spent = append(u.Spent, x.u.Spent[i%3])
		}
		want := api.ErrUndo
		if n == 3 {
			want = api.OK
		}
		x.tells(t, "an undo", x.after, x.b, u, x.height, want)
	}
	x.tells(t, "an undo of very many", x.after, x.b, api.Undo{Spent: make([]api.Coin, 10000)}, x.height, api.ErrUndo)
	w := newWorld(t)
	b, _ := w.next()
	w.takes(b, 1)
	if e := w.disconnects(b, api.Undo{Spent: []api.Coin{{}}}, 1); e != api.ErrUndo {
		t.Error("Disconnect of one that spends nothing, with a coin", e)
	}
	if e := w.disconnects(b, api.Undo{Spent: []api.Coin{}}, 1); e != api.OK {
		t.Error("Disconnect of one that spends nothing", e)
	}
}

// Promise 16.3: heights below 0 and not below the block's, of each coin; whatever else a coin is.
func TestDisconnectHeights(t *testing.T) {
	x := newUndoing(t)
	for i := range 3 {
		for _, height := range []int{0, 1, 19, 20, 21, 22, 100, -1, -2, math.MinInt, math.MaxInt, 1 << 32} {
			want := api.ErrUndo
			if height >= 0 && height <= 20 {
				want = api.OK
			}
			u := api.Undo{Spent: slices.Clone(x.u.Spent)}
			u.Spent[i].Height = height
			x.tells(t, "a coin of another height", x.after, x.b, u, x.height, want)
		}
	}
	odd := api.Undo{Spent: []api.Coin{
		{Out: api.Out{Value: math.MaxUint64, Lock: strings.Repeat("l", 1000)}, Height: 20, Coinbase: true},
		{Out: api.Out{Value: math.MaxUint64}},
		{},
	}}
	w := risen(t, x.after)
	if e := w.disconnects(x.b, odd, x.height); e != api.OK || w.c.Total() != 198 {
		t.Error("Disconnect with other coins", e, w.c.Total())
	}
}

// Promise 16.3: a point that is there already, and one that stands twice.
func TestDisconnectPoints(t *testing.T) {
	x := newUndoing(t)
	for i := range 3 {
		x.tells(t, "a point that is there", x.after.with(point(i), plain(100, 10)), x.b, x.u, x.height, api.ErrUndo)
		x.tells(t, "a point that is there, of another coin", x.after.with(point(i), plain(9, 3)), x.b, x.u, x.height, api.ErrUndo)
	}
	four := api.Undo{Spent: append(slices.Clone(x.u.Spent), plain(1, 1))}
	for place := 1; place < 3; place++ {
		for i := range 5 {
			b := x.b
			b.Txs = slices.Clone(b.Txs)
			b.Txs[place].Ins = append(slices.Clone(b.Txs[place].Ins), api.In{Point: point(i)})
			m := x.after
			if place == 1 { // its id is another one
				for n, o := range b.Txs[1].Outs {
					m = m.with(out(b.Txs[1], n), plain(o.Value, 21))
				}
				b.Txs[2].Ins = slices.Clone(b.Txs[2].Ins)
				b.Txs[2].Ins[0].Point = out(b.Txs[1], 1)
				m = m.without(out(b.Txs[1], 1))
			}
			m = m.with(out(b.Txs[2], 0), plain(7, 21))
			x.tells(t, "a point that stands twice or is there", m, b, four, x.height, api.ErrUndo)
			free := m.without(point(i))
			want := api.ErrUndo
			if i > 2 {
				want = api.OK
			}
			x.tells(t, "a point that stands twice", free, b, four, x.height, want)
		}
	}
}

// Promise 16.3: other transactions under the tip's header: what they make must be there all the same.
func TestDisconnectOthers(t *testing.T) {
	x := newUndoing(t)
	head := x.b.Header
	a, b := x.b.Txs[1], x.b.Txs[2]
	for _, o := range []struct {
		what string
		txs  []api.Tx
		u    api.Undo
		want api.Errno
	}{
		{"none", nil, api.Undo{}, api.OK},
		{"none, with a coin", nil, api.Undo{Spent: x.u.Spent[:1]}, api.ErrUndo},
		{"the coinbase alone", x.b.Txs[:1], api.Undo{}, api.OK},
		{"no coinbase", x.b.Txs[1:], x.u, api.OK},
		{"another order", []api.Tx{x.b.Txs[0], b, a}, x.u, api.ErrUndo},
		{"another order, and a coin more", []api.Tx{x.b.Txs[0], b, a}, api.Undo{Spent: append(slices.Clone(x.u.Spent), x.u.Spent[0])}, api.ErrUndo},
		{"without the last one", x.b.Txs[:2], api.Undo{Spent: x.u.Spent[:2]}, api.ErrUndo},
		{"without the midst", []api.Tx{x.b.Txs[0], b}, api.Undo{Spent: x.u.Spent[:2]}, api.OK},
		{"the coinbase twice", []api.Tx{x.b.Txs[0], x.b.Txs[0]}, api.Undo{}, api.OK},
		{"the coinbase of another height", []api.Tx{base(22, 1), a, b}, x.u, api.ErrUndo},
		{"one more", append(slices.Clone(x.b.Txs), spends([]api.Point{point(8)}, 5)), api.Undo{Spent: append(slices.Clone(x.u.Spent), plain(5, 5))}, api.ErrUndo},
		{"one more that makes nothing", append(slices.Clone(x.b.Txs), spends([]api.Point{point(8)})), api.Undo{Spent: append(slices.Clone(x.u.Spent), plain(5, 5))}, api.OK},
		{"one more that is a coinbase", append(slices.Clone(x.b.Txs), base(3)), x.u, api.OK},
		{"an empty one more", append(slices.Clone(x.b.Txs), api.Tx{}), x.u, api.OK},
	} {
		x.tells(t, o.what, x.after, api.Block{Header: head, Txs: o.txs}, o.u, x.height, o.want)
	}
}

// Promise 16.3: outputs of a transaction that has no id are in no set.
func TestDisconnectWithoutID(t *testing.T) {
	x := newUndoing(t)
	long := spends([]api.Point{point(8)}, slices.Repeat([]uint64{5}, 500)...)
	key := spends([]api.Point{point(8)}, 5)
	key.Ins[0].Key = strings.Repeat("k", 521)
	m := x.after
	for i := range 500 {
		m = m.with(api.Point{Index: uint32(i)}, plain(5, 21))
	}
	u := api.Undo{Spent: []api.Coin{plain(1, 1)}}
	for _, one := range []api.Tx{long, key} {
		x.tells(t, "one without an id", m, api.Block{Header: x.b.Header, Txs: []api.Tx{one}}, u, x.height, api.ErrUndo)
		x.tells(t, "one without an id, and no coins", m, api.Block{Header: x.b.Header, Txs: []api.Tx{one}}, api.Undo{}, x.height, api.ErrUndo)
	}
	key.Outs = nil
	x.tells(t, "one without an id that makes nothing", m, api.Block{Header: x.b.Header, Txs: []api.Tx{key}}, u, x.height, api.OK)
}

// Promises 16.3 and 16.7: blocks that are connected behind one another, and undone, over and over.
func TestDisconnectOverAndOver(t *testing.T) {
	w := newWorld(t)
	var blocks []api.Block
	var undos []api.Undo
	states := []string{w.c.Bytes()}
	var last api.Tx
	for height := 1; height <= 12; height++ {
		txs := []api.Tx{base(height, 2000, 3000)}
		if height > 4 {
			from := out(blocks[height-5].Txs[0], height%2)
			last = spends([]api.Point{from}, 900, 1100)
			txs = append(txs, last, spends([]api.Point{out(last, 0)}, 300))
		}
		b := sealed(w.m.tip, uint32(height), txs...)
		for range 3 {
			u := w.takes(b, height)
			if e := w.disconnects(b, u, height); e != api.OK || w.c.Bytes() != states[height-1] {
				t.Fatal("Disconnect", height, e)
			}
		}
		undos = append(undos, w.takes(b, height))
		blocks, states = append(blocks, b), append(states, w.c.Bytes())
	}
	for range 2 {
		for height := 12; height > 0; height-- {
			if e := w.disconnects(blocks[height-1], undos[height-1], height); e != api.OK || w.c.Bytes() != states[height-1] {
				t.Fatal("Disconnect", height, e)
			}
		}
		if tip, height := w.c.Tip(); height != 0 || tip != idOf(genesis().Header) || w.c.Len() != 0 {
			t.Fatal("Tip", height)
		}
		for height := 1; height <= 12; height++ {
			w.takes(blocks[height-1], height)
		}
	}
}
