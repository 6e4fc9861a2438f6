package chain

import (
	"math/rand"
	"slices"
	"strconv"
	"testing"

	"bedrock/api"
	"bedrock/tx"
	"bedrock/valid"
)

// script is a world in which things happen by lots; blocks that are built wait, and come in any order.
type script struct {
	*world
	s     *site
	lots  *rand.Rand
	built []api.Block
	kinds map[int]int
	fails map[api.Errno]int
}

// lotTxs is transactions on a block that spend what is there behind it, mostly as they should.
func (x *script) lotTxs(on api.Block) []api.Tx {
	p := x.s.m.play(x.s.m.find(idOf(on)))
	height := x.s.height(on)
	var l []api.Tx
	for _, point := range p.coins.All() {
		coin, _ := p.coins.Get(point)
		young := coin.Coinbase && coin.Height+4 > height
		if x.lots.Intn(4) > 0 || coin.Out.Value < 2 || young && x.lots.Intn(40) > 0 {
			continue
		}
		paid := uint64(x.lots.Intn(int(coin.Out.Value)))
		t := spends([]api.Point{point}, paid, coin.Out.Value-paid-uint64(x.lots.Intn(2)))
		if x.lots.Intn(60) == 0 {
			t.Outs[0].Value += 2
		}
		l = append(l, t)
		if x.lots.Intn(3) == 0 && paid > 0 {
			id, _ := tx.ID(t)
			l = append(l, spends([]api.Point{{Tx: id}}, paid/2))
		}
	}
	return l
}

// build builds a block on one that was built, rather on one of the last.
func (x *script) build() {
	on := first()
	if n := len(x.built); n > 0 && x.lots.Intn(30) > 0 {
		on = x.built[max(0, n-1-x.lots.Intn(1+x.lots.Intn(6)))]
	}
	if x.s.m.bad(x.s.m.find(idOf(on))) {
		return
	}
	height := x.s.height(on)
	pay := uint64(5000)
	if x.lots.Intn(18) == 0 {
		pay += 100000
	}
	name := strconv.Itoa(len(x.built))
	var txs []api.Tx
	if p := x.s.m.play(x.s.m.find(idOf(on))); p.e == 0 {
		txs = x.lotTxs(on)
	}
	txs = append([]api.Tx{base(height, name, pay)}, txs...)
	if x.lots.Intn(40) == 0 {
		txs = append(txs, base(height, "other", 1))
	}
	b := x.s.of(on, uint32(40+x.lots.Intn(60)), txs...)
	i := x.s.m.find(idOf(b))
	x.s.m.l[i].block, x.s.m.l[i].body = b, true
	if valid.Check(b) == api.OK {
		x.built = append(x.built, b)
	}
	x.deliver(b)
}

// deliver hands a block in, or its header alone, or nothing of it yet.
func (x *script) deliver(b api.Block) {
	if i := x.s.m.find(idOf(b)); i > 0 && x.lots.Intn(8) > 0 {
		for _, j := range x.s.m.way(i)[1:] {
			x.header(x.s.m.l[j].block.Header, late)
		}
	}
	switch x.lots.Intn(6) {
	case 0:
	case 1:
		x.header(b.Header, late)
	case 2:
		x.fails[x.load(b, late)]++
	default:
		steps, e := x.block(b, late)
		x.fails[e]++
		x.count(steps)
	}
}

func (x *script) count(steps []api.Step) {
	for _, s := range steps {
		x.kinds[s.Kind]++
	}
}

// step does something by lot.
func (x *script) step() {
	var b api.Block
	if len(x.built) > 0 {
		b = x.built[x.lots.Intn(len(x.built))]
	}
	switch x.lots.Intn(40) {
	default:
		x.build()
	case 0, 1, 2, 3, 4, 5, 6, 7, 8, 9:
		x.deliver(b)
	case 10:
		other := twin(b)
		other.Txs = append(other.Txs, api.Tx{})
		x.deliver(other)
	case 11:
		if x.lots.Intn(3) == 0 {
			steps, _ := x.invalidate(idOf(b))
			x.count(steps)
		}
	case 12:
		x.activate()
	case 13:
		x.lotSet(b)
	}
}

// lotSet lays the state of some block's chain.
func (x *script) lotSet(b api.Block) {
	i := x.m.find(idOf(b))
	if i < 0 || x.m.l[i].turn == 0 || x.m.bad(i) {
		return
	}
	var l []api.Block
	for _, j := range x.m.way(i)[1:] {
		if x.m.play(j).e != 0 {
			return
		}
		l = append(l, x.m.l[j].block)
	}
	if e := x.set(state(l...)); e != api.OK {
		x.Fatal("Set", e)
	}
	x.same()
	x.activate()
}

// follows is what the chapter says that follows: the tip is the tree's Best, and none of those that may not be is on its chain.
func (x *script) follows() {
	x.Helper()
	id, height := x.c.Tip()
	n, _ := x.c.Tree().Get(id)
	if x.c.Tree().Best() != id || n.Height != height || n.Bad || !n.Whole {
		x.Fatal("the tip is not the best", n)
	}
}

// Promises 17.1 to 17.3, 17.5: headers, blocks in any order, bad ones, states laid, all by lots and held against the model.
func TestByLots(t *testing.T) {
	kinds, fails, deepest := map[int]int{}, map[api.Errno]int{}, 0
	for seed := range int64(40) {
		x := &script{world: newWorld(t), s: newSite(t), lots: rand.New(rand.NewSource(seed)), kinds: kinds, fails: fails}
		for range 140 {
			x.step()
			x.same()
		}
		for _, b := range x.built {
			steps, _ := x.block(b, late)
			x.count(steps)
			x.same()
		}
		x.activate()
		x.same()
		x.follows()
		deepest = max(deepest, x.m.height(x.m.tip))
	}
	if kinds[1] < 100 || kinds[2] < 500 || kinds[3] < 25 {
		t.Error("few steps of some kind", kinds)
	}
	for _, e := range []api.Errno{api.OK, api.ErrRoots, api.ErrHave, api.ErrAlone, api.ErrBad} {
		if fails[e] < 10 {
			t.Error("few of some error", fails)
		}
	}
	if deepest < 20 {
		t.Error("the highest tip", deepest)
	}
}

// best is T1 by itself: of the blocks of a list, in the order in which they came with all their ancestors ahead, the end of the valid chain with the most work, and its coins.
func best(m *model, l []api.Block) (api.Hash, *valid.Coins) {
	tip := 0
	for _, b := range l {
		i := m.find(idOf(b))
		good := !slices.ContainsFunc(m.way(i), func(j int) bool { return m.play(j).e != 0 })
		if good && m.work(i).Cmp(m.work(tip)) > 0 {
			tip = i
		}
	}
	return m.l[tip].id, m.play(tip).coins
}

// Promise 17.5: of all bodies, looked for from end to end, the tip is at the end of the best chain, behind each block.
func TestBestOfAll(t *testing.T) {
	for seed := range int64(15) {
		x := &script{world: newWorld(t), s: newSite(t), lots: rand.New(rand.NewSource(1000 + seed)), kinds: map[int]int{}, fails: map[api.Errno]int{}}
		for len(x.built) < 40 {
			x.build()
		}
		c := New()
		for i, b := range x.built {
			c.Block(b, late)
			want, coins := best(x.s.m, x.built[:i+1])
			if id, _ := c.Tip(); id != want || c.Coins().Sum() != coins.Sum() {
				t.Fatal("the tip is not the best of all, seed", seed, "block", i)
			}
		}
	}
}
