package chain

import (
	"strings"
	"testing"

	"bedrock/api"
	"bedrock/block"
	"bedrock/tx"
	"bedrock/valid"
)

// The chapter's example.
func TestExample(t *testing.T) {
	w, s := newWorld(t), newSite(t)
	a := s.on(first(), "a")
	b := s.on(first(), "b")
	c := s.on(b, "c")
	steps, _ := w.block(a, late)
	stepsAre(t, steps, connected(a, 1))
	steps, _ = w.block(b, late)
	stepsAre(t, steps)
	w.tipIs(a)
	steps, _ = w.block(c, late)
	stepsAre(t, steps, undone(a, 1), connected(b, 1), connected(c, 2))
	w.tipIs(c)
	w.same()
}

// Promise 17.2: what a chain is at first.
func TestNew(t *testing.T) {
	w := newWorld(t)
	w.tipIs(first())
	if b, ok := w.c.Body(idOf(first())); !ok || !block.Same(b, first()) || w.c.Bodies() != 1 {
		t.Error("the body of genesis", ok)
	}
	if _, ok := w.c.Undo(idOf(first())); ok {
		t.Error("an undo of genesis")
	}
	if steps := w.activate(); len(steps) > 0 || w.c.Coins().Len() != 0 || w.c.Tree().Len() != 1 {
		t.Error("a new chain", steps)
	}
}

// Promise 17.4: each call on a nil Chain.
func TestNil(t *testing.T) {
	var c *Chain
	b := newSite(t).on(first(), "a")
	is, e1 := c.Header(b.Header, late)
	s2, e2 := c.Block(b, late)
	s3, e3 := c.Invalidate(idOf(first()))
	e4 := c.Load(b, late)
	e5 := c.Set(idOf(first()), valid.NewCoins(), nil)
	for _, e := range []api.Errno{e1, e2, e3, e4, e5} {
		if e != api.ErrArg {
			t.Error("an error other than ErrArg", e)
		}
	}
	id, height := c.Tip()
	body, there := c.Body(idOf(first()))
	active, ok := c.Active(0)
	u, undo := c.Undo(idOf(first()))
	if is || len(s2) > 0 || len(s3) > 0 || id != (api.Hash{}) || height != 0 || len(body.Txs) > 0 || body.Header != (api.Header{}) || there {
		t.Error("something of a nil Chain", is, s2, s3, id, height, body, there)
	}
	if c.Tree() != nil || c.Coins() != nil || c.Has(idOf(first())) || active != (api.Hash{}) || ok || len(u.Spent) > 0 || undo || c.Bodies() != 0 || len(c.Activate()) > 0 {
		t.Error("something of a nil Chain")
	}
}

// fault is one of the faults of a block, in the order in which Block tells them.
type fault struct {
	name string
	want api.Errno
}

// faults is a world in which a block stands, one is bad, and the faults that a block may have there.
func faults() []fault {
	return []fault{
		{"root", api.ErrRoots}, {"have", api.ErrHave}, {"proof", api.ErrProof}, {"alone", api.ErrAlone},
		{"on bad", api.ErrBad}, {"asked", api.ErrAsked}, {"old", api.ErrOld}, {"soon", api.ErrSoon},
		{"bad", api.ErrBad}, {"check", api.ErrBases},
	}
}

// stage is a world in which good stands on genesis, and bad, too, the body of which is not there.
type stage struct {
	*world
	good, bad api.Block
}

func newStage(t *testing.T) *stage {
	w, s := newWorld(t), newSite(t)
	x := &stage{w, s.on(first(), "good"), s.on(first(), "bad")}
	x.takes(x.good)
	x.header(x.bad.Header, late)
	x.invalidate(idOf(x.bad))
	x.same()
	return x
}

// faulty is a block with just these faults, and the time of the clock; false, if there can't be one.
func (x *stage) faulty(has map[string]bool) (api.Block, uint32, bool) {
	if has["alone"] && has["on bad"] {
		return api.Block{}, 0, false
	}
	seconds := map[bool]uint32{false: 60, true: 0}[has["old"]]
	h := api.Header{Version: 1, Prev: idOf(x.good), Time: x.good.Header.Time + seconds, Bits: api.LimitBits}
	if has["alone"] {
		h.Prev = api.Hash{7}
	}
	if has["on bad"] {
		h.Prev = idOf(x.bad)
	}
	if has["asked"] {
		h.Bits = 0x207ffffe
	}
	txs := []api.Tx{base(2, "a", 5000)}
	if has["check"] {
		txs = append(txs, base(2, "b", 5000))
	}
	h.Root, _ = block.Root(txs...)
	now := h.Time
	if has["soon"] {
		now -= 7201
	}
	for block.Meets(h) == has["proof"] {
		h.Nonce++
	}
	b := api.Block{Header: h, Txs: txs}
	if has["have"] {
		if x.load(b, late) != api.OK {
			return b, 0, false
		}
	}
	if has["bad"] {
		x.header(h, late)
		if _, e := x.invalidate(idOf(b)); e != api.OK {
			return b, 0, false
		}
	}
	if has["root"] {
		b.Txs = append(b.Txs, base(2, "more", 5000))
	}
	return b, now, true
}

// Promises 17.1, 17.3: Block and Load of a block with no fault, with each alone, and with each two at once.
func TestBlockFaults(t *testing.T) {
	l := faults()
	pairs := 0
	for i := range l {
		for j := range l[:i+1] {
			for _, call := range []string{"Block", "Load"} {
				x := newStage(t)
				b, now, ok := x.faulty(map[string]bool{l[i].name: true, l[j].name: true})
				if !ok {
					continue
				}
				pairs++
				want := l[j].want
				if _, known := x.c.Tree().Get(idOf(b)); known && l[j].name == "soon" {
					want = l[i].want // a header that is there is not looked at again
				}
				if got := x.hand(call, b, now); got != want {
					t.Errorf("%s with the faults %s and %s: %d, not %d", call, l[j].name, l[i].name, got, want)
				}
				x.same()
			}
		}
	}
	if pairs != 2*43 {
		t.Error(pairs, "choices of faults")
	}
	x := newStage(t)
	b, now, _ := x.faulty(nil)
	if e := x.hand("Block", b, now); e != api.OK {
		t.Error("a block without faults", e)
	}
	x.same()
}

// hand is Block or Load.
func (x *stage) hand(call string, b api.Block, now uint32) api.Errno {
	x.Helper()
	if call == "Load" {
		return x.load(b, now)
	}
	_, e := x.block(b, now)
	return e
}

// Promise 17.1: the clock of a header and of a block.
func TestSoon(t *testing.T) {
	w, s := newWorld(t), newSite(t)
	b := s.on(first(), "a")
	for _, now := range []uint32{0, b.Header.Time - 7201} {
		if e := w.header(b.Header, now); e != api.ErrSoon {
			t.Error("Header", e)
		}
		if _, e := w.block(b, now); e != api.ErrSoon {
			t.Error("Block", e)
		}
		if e := w.load(b, now); e != api.ErrSoon {
			t.Error("Load", e)
		}
	}
	w.same()
	if _, e := w.block(b, b.Header.Time-7200); e != api.OK {
		t.Error("Block at the bound", e)
	}
	w.same()
}

// Promise 17.1: transactions that are not the header's leave the header unknown, or, if it was known, as good as it was.
func TestOtherTransactions(t *testing.T) {
	w, s := newWorld(t), newSite(t)
	b := s.on(first(), "a", spends([]api.Point{{Index: 1}}, 1), spends([]api.Point{{Index: 2}}, 1))
	twice := twin(b)
	twice.Txs = append(twice.Txs, b.Txs[2])
	for _, other := range [][]api.Tx{nil, b.Txs[:2], {b.Txs[0], b.Txs[2], b.Txs[1]}, twice.Txs} {
		if _, e := w.block(api.Block{Header: b.Header, Txs: other}, late); e != api.ErrRoots {
			t.Error("Block of other transactions", e)
		}
		w.same()
	}
	if w.c.Tree().Len() != 1 {
		t.Error("the header of a body that is not its own was taken")
	}
	good := s.on(first(), "b")
	w.header(good.Header, late)
	w.block(api.Block{Header: good.Header, Txs: b.Txs}, late)
	if n, _ := w.c.Tree().Get(idOf(good)); n.Bad || n.Body {
		t.Error("another one's transactions are held against a header")
	}
	w.takes(good)
	w.tipIs(good)
}

// Promise 17.1: a list of transactions with a mutated root is not the header's, though the root is the same.
func TestMutated(t *testing.T) {
	w, s := newWorld(t), newSite(t)
	b := s.on(first(), "a", spends([]api.Point{{Index: 1}}, 1), spends([]api.Point{{Index: 2}}, 1))
	mutated := twin(b)
	mutated.Txs = append(mutated.Txs, mutated.Txs[2])
	if root, is := block.Root(mutated.Txs...); root != b.Header.Root || !is {
		t.Fatal("not mutated")
	}
	if _, e := w.block(mutated, late); e != api.ErrRoots {
		t.Error("Block of a mutated list", e)
	}
	w.same()
}

// wrong is blocks on genesis that may not be by themselves, and why.
func wrong(s *site) map[api.Errno]api.Block {
	high := spends([]api.Point{{Index: 1}}, 1000001)
	var long []api.Tx
	for i := range 15 {
		long = append(long, api.Tx{Version: 1, Ins: []api.In{{Point: api.Point{Index: uint32(i)}, Key: strings.Repeat("k", 520)}}, Outs: []api.Out{{}}})
	}
	tall := api.Block{Header: api.Header{Version: 1, Prev: idOf(first()), Time: first().Header.Time + 60, Bits: api.LimitBits}}
	tall.Txs = append([]api.Tx{base(1, "long", 5000)}, long...)
	tall.Header.Root, _ = block.Root(tall.Txs...)
	tall.Header, _ = block.Mine(tall.Header, 1000)
	return map[api.Errno]api.Block{
		api.ErrLong:    tall,
		api.ErrFirst:   s.of(first(), 60, spends([]api.Point{{Index: 3}}, 1)),
		api.ErrBases:   s.of(first(), 60, base(1, "a", 1), base(1, "b", 1)),
		tx.Check(high): s.of(first(), 60, base(1, "a", 1), high),
	}
}

// Promise 17.1: a body that valid.Check refuses: its header is there, and is bad; told again, and what stands on it, it is ErrBad.
func TestCheckRefuses(t *testing.T) {
	s := newSite(t)
	for want, b := range wrong(s) {
		for _, call := range []string{"Block", "Load"} {
			for _, ahead := range []bool{false, true} {
				x := &stage{world: newWorld(t)}
				if ahead {
					x.header(b.Header, late)
				}
				if e := x.hand(call, b, late); e != want {
					t.Error(call, e, "not", want)
				}
				if n, there := x.c.Tree().Get(idOf(b)); !there || !n.Bad || n.Body || x.c.Has(idOf(b)) {
					t.Error("behind", want, "the tree says", n, there)
				}
				x.same()
				if e := x.hand(call, b, late); e != api.ErrBad {
					t.Error(call, "once more:", e)
				}
				h, _ := block.Mine(api.Header{Prev: idOf(b), Time: b.Header.Time + 60, Bits: api.LimitBits}, 1000)
				if e := x.header(h, late); e != api.ErrBad {
					t.Error("a header on it:", e)
				}
				x.same()
			}
		}
	}
}

// Promise 17.1: one told twice; one whose body is there and that is bad is ErrHave still.
func TestHave(t *testing.T) {
	w, s := newWorld(t), newSite(t)
	a, x := s.on(first(), "a"), s.greedy(first(), "x")
	w.takes(a)
	for range 2 {
		if steps, e := w.block(a, late); e != api.ErrHave || len(steps) > 0 {
			t.Error("Block once more", steps, e)
		}
		if e := w.load(a, late); e != api.ErrHave {
			t.Error("Load once more", e)
		}
		if _, e := w.block(first(), 0); e != api.ErrHave {
			t.Error("Block of genesis", e)
		}
	}
	w.invalidate(idOf(a))
	steps, _ := w.block(x, late)
	stepsAre(t, steps, refused(x, 1, api.ErrPaid))
	for _, b := range []api.Block{a, x} {
		if _, e := w.block(b, late); e != api.ErrHave {
			t.Error("Block of a bad one whose body is there", e)
		}
	}
	if is, e := w.c.Header(a.Header, 0); is || e != api.OK {
		t.Error("Header of one that is there", is, e)
	}
	w.same()
}

// Promise 17.1: a full tree has no room for a header, but for bodies of those that are there.
func TestMany(t *testing.T) {
	c := New()
	var h api.Header
	for n := uint32(1); n < api.MaxTree; n++ {
		h, _ = block.Mine(api.Header{Version: n, Prev: idOf(first()), Time: first().Header.Time + 60, Bits: api.LimitBits}, 1000)
		if is, e := c.Header(h, late); !is || e != api.OK {
			t.Fatal("Header", n, e)
		}
	}
	s := newSite(t)
	b := s.on(first(), "a")
	if is, e := c.Header(b.Header, late); is || e != api.ErrMany {
		t.Error("Header of one too many", is, e)
	}
	if _, e := c.Block(b, late); e != api.ErrMany {
		t.Error("Block of one too many", e)
	}
	if e := c.Load(b, late); e != api.ErrMany {
		t.Error("Load of one too many", e)
	}
	if c.Tree().Len() != api.MaxTree || c.Bodies() != 1 {
		t.Error("something of what was refused stayed")
	}
}
