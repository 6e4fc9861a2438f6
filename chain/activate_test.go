package chain

import (
	"slices"
	"testing"

	"bedrock/api"
	"bedrock/tx"
)

// orders is all orders of the numbers below n.
func orders(n int) [][]int {
	if n == 0 {
		return [][]int{nil}
	}
	var l [][]int
	for _, o := range orders(n - 1) {
		for i := range n {
			l = append(l, slices.Insert(slices.Clone(o), i, n-1))
		}
	}
	return l
}

// Promises 17.1, 17.5: headers and bodies of three blocks in every order, also those in which one comes ahead of what it stands on.
func TestEveryOrder(t *testing.T) {
	s := newSite(t)
	a := s.on(first(), "a")
	b := s.on(a, "b")
	blocks := []api.Block{a, b, s.on(a, "c")}
	for _, order := range orders(6) {
		w := newWorld(t)
		for _, i := range order {
			if x := blocks[i/2]; i%2 == 0 {
				w.header(x.Header, late)
			} else {
				w.block(x, late)
			}
		}
		w.same()
	}
}

// Promises 17.1, 17.5: five bodies, their headers known, in every order: a body stays until those of its ancestors come.
func TestBodiesInEveryOrder(t *testing.T) {
	s := newSite(t)
	trunk := s.run(first(), 3, "a")
	side := s.run(trunk[0], 2, "b")
	blocks := append(slices.Clone(trunk), side...)
	ends := map[api.Hash]int{}
	for _, order := range orders(len(blocks)) {
		w := newWorld(t)
		for _, b := range blocks {
			w.header(b.Header, late)
		}
		for _, i := range order {
			w.takes(blocks[i])
		}
		id, _ := w.c.Tip()
		ends[id]++
	}
	if len(ends) != 2 || ends[idOf(trunk[2])] == 0 || ends[idOf(side[1])] == 0 {
		t.Error("tips of two chains of the same work, in every order:", ends)
	}
}

// Promise 17.1: a body behind its descendants' bodies brings all of them, in one call.
func TestBodyBehindOthers(t *testing.T) {
	w, s := newWorld(t), newSite(t)
	l := s.run(first(), 3, "a")
	for _, b := range l {
		w.header(b.Header, late)
	}
	for _, b := range []api.Block{l[2], l[1]} {
		steps, e := w.block(b, late)
		if stepsAre(t, steps); e != api.OK || !w.c.Has(idOf(b)) {
			t.Error("a body ahead of its ancestors'", e)
		}
		w.tipIs(first())
		w.same()
	}
	steps, _ := w.block(l[0], late)
	stepsAre(t, steps, connected(l[0], 1), connected(l[1], 2), connected(l[2], 3))
	w.same()
}

// Promises 17.1, 17.5: turns of one block and of several, with the steps in their order.
func TestTurns(t *testing.T) {
	w, s := newWorld(t), newSite(t)
	a, b := s.run(first(), 3, "a"), s.run(first(), 4, "b")
	w.takes(append(slices.Clone(a), b[:3]...)...)
	w.tipIs(a[2])
	steps, _ := w.block(b[3], late)
	stepsAre(t, steps, undone(a[2], 3), undone(a[1], 2), undone(a[0], 1),
		connected(b[0], 1), connected(b[1], 2), connected(b[2], 3), connected(b[3], 4))
	w.same()
	c := s.run(b[2], 2, "c")
	w.takes(c[0])
	steps, _ = w.block(c[1], late)
	stepsAre(t, steps, undone(b[3], 4), connected(c[0], 4), connected(c[1], 5))
	w.same()
}

// Promise 17.5: of two chains of the same work the one that became whole first, though the other one's headers came first.
func TestSameWork(t *testing.T) {
	w, s := newWorld(t), newSite(t)
	a, b := s.run(first(), 2, "a"), s.run(first(), 2, "b")
	for _, x := range append(slices.Clone(a), b...) {
		w.header(x.Header, late)
	}
	w.takes(a[1], b[0], b[1])
	w.tipIs(b[1])
	w.takes(a[0])
	w.tipIs(b[1])
	w.invalidate(idOf(b[1]))
	w.tipIs(a[1])
	w.same()
}

// Promise 17.5: work counts, not how many blocks there are: fast blocks have harder targets behind a while.
func TestMoreWorkInFewerBlocks(t *testing.T) {
	w, s := newWorld(t), newSite(t)
	slow := s.run(first(), 10, "slow")
	w.takes(slow...)
	fast := first()
	var l []api.Block
	for range 9 {
		fast = s.later(fast, 1, "fast")
		l = append(l, fast)
	}
	w.takes(l...)
	if _, height := w.c.Tip(); height != 9 {
		t.Error("the tip's height", height)
	}
	w.tipIs(fast)
}

// Promises 17.1, 17.5: a block in the midst of a longer chain may not be connected: it is bad with all behind it, and one turns to what is best then.
func TestRefuse(t *testing.T) {
	w, s := newWorld(t), newSite(t)
	a := s.run(first(), 2, "a")
	b := s.on(first(), "b")
	x := s.greedy(b, "x")
	y := s.run(x, 3, "y")
	w.takes(a...)
	w.takes(b, x)
	steps, _ := w.block(y[0], late)
	stepsAre(t, steps, undone(a[1], 2), undone(a[0], 1), connected(b, 1), refused(x, 2, api.ErrPaid),
		undone(b, 1), connected(a[0], 1), connected(a[1], 2))
	w.tipIs(a[1])
	for _, bad := range []api.Block{x, y[0]} {
		if n, _ := w.c.Tree().Get(idOf(bad)); !n.Bad {
			t.Error("not bad")
		}
	}
	if n, _ := w.c.Tree().Get(idOf(b)); n.Bad {
		t.Error("what stands below is bad")
	}
	if _, e := w.block(y[1], late); e != api.ErrBad {
		t.Error("a block on what is bad", e)
	}
	w.same()
}

// Promise 17.1: the tip stays where the way led, if that is best behind a refusal.
func TestRefuseOnTip(t *testing.T) {
	w, s := newWorld(t), newSite(t)
	b := s.on(first(), "b")
	x := s.greedy(b, "x")
	z := s.on(x, "z")
	w.header(b.Header, late)
	w.header(x.Header, late)
	w.takes(z, x)
	steps, _ := w.block(b, late)
	stepsAre(t, steps, connected(b, 1), refused(x, 2, api.ErrPaid))
	w.tipIs(b)
	w.same()
	c := s.on(b, "c")
	steps, _ = w.block(c, late)
	stepsAre(t, steps, connected(c, 2))
}

// Promise 17.1: several chains that may not be, one behind the other, in one call.
func TestRefuseSeveral(t *testing.T) {
	w, s := newWorld(t), newSite(t)
	a := s.on(first(), "a")
	x, y := s.greedy(a, "x"), s.greedy(a, "y")
	x2 := s.run(x, 3, "x2")
	y2 := s.run(y, 2, "y2")
	z := s.on(a, "z")
	for _, b := range slices.Concat([]api.Block{a, x, y}, x2, y2, []api.Block{z}) {
		w.header(b.Header, late)
	}
	w.takes(slices.Concat([]api.Block{x, y, z}, x2, y2)...)
	steps, _ := w.block(a, late)
	stepsAre(t, steps, connected(a, 1), refused(x, 2, api.ErrPaid), refused(y, 2, api.ErrPaid), connected(z, 2))
	w.same()
}

// Promises 17.2, 17.5: what undoing takes is there as long as a block is connected, and brings the coins back.
func TestUndo(t *testing.T) {
	w, s := newWorld(t), newSite(t)
	l := s.run(first(), 5, "a")
	id, _ := tx.ID(l[0].Txs[0])
	pay := spends([]api.Point{{Tx: id}}, 3000, 1000)
	paid, _ := tx.ID(pay)
	spend := s.on(l[4], "spend", pay, spends([]api.Point{{Tx: paid}}, 3000))
	w.takes(l...)
	before := w.c.Coins().Sum()
	w.takes(spend)
	u, ok := w.c.Undo(idOf(spend))
	if want := (api.Coin{Out: api.Out{Value: 5000}, Height: 1, Coinbase: true}); !ok || !slices.Equal(u.Spent, []api.Coin{want}) {
		t.Error("Undo", u, ok)
	}
	if u, ok := w.c.Undo(idOf(l[2])); !ok || len(u.Spent) != 0 {
		t.Error("Undo of a block that spends nothing", u, ok)
	}
	steps, _ := w.invalidate(idOf(spend))
	stepsAre(t, steps, undone(spend, 6))
	if u, ok := w.c.Undo(idOf(spend)); ok || len(u.Spent) > 0 {
		t.Error("Undo of what was undone", u, ok)
	}
	if w.c.Coins().Sum() != before {
		t.Error("the coins did not come back")
	}
	w.same()
}

// Promise 17.2: Invalidate of the tip, of one below it, of one on no active chain, of genesis, and of one that is not there.
func TestInvalidate(t *testing.T) {
	w, s := newWorld(t), newSite(t)
	a, b := s.run(first(), 5, "a"), s.run(first(), 2, "b")
	w.takes(a...)
	w.takes(b...)
	ask := func(id api.Hash, wantE api.Errno, want ...api.Step) {
		t.Helper()
		steps, e := w.invalidate(id)
		if stepsAre(t, steps, want...); e != wantE {
			t.Error("Invalidate", e, "not", wantE)
		}
		w.same()
	}
	ask(api.Hash{9}, api.ErrNone)
	ask(idOf(first()), api.ErrArg)
	ask(idOf(a[4]), api.OK, undone(a[4], 5))
	ask(idOf(a[4]), api.OK)
	ask(idOf(b[1]), api.OK)
	ask(idOf(a[2]), api.OK, undone(a[3], 4), undone(a[2], 3))
	ask(idOf(a[0]), api.OK, undone(a[1], 2), undone(a[0], 1), connected(b[0], 1))
	ask(idOf(b[0]), api.OK, undone(b[0], 1))
	w.tipIs(first())
	c := s.on(first(), "c")
	w.header(c.Header, late)
	ask(idOf(c), api.OK)
	if _, e := w.block(c, late); e != api.ErrBad {
		t.Error("a block that was told to be bad", e)
	}
	w.same()
}

// Promise 17.2: where the tip is told to be bad, the way leads to the best of the others, over a refusal, too.
func TestInvalidateTurns(t *testing.T) {
	w, s := newWorld(t), newSite(t)
	a := s.run(first(), 4, "a")
	b := s.on(first(), "b")
	x := s.greedy(b, "x")
	y := s.on(x, "y")
	w.takes(a...)
	w.takes(b, x, y)
	steps, _ := w.invalidate(idOf(a[2]))
	stepsAre(t, steps, undone(a[3], 4), undone(a[2], 3), undone(a[1], 2), undone(a[0], 1), connected(b, 1), refused(x, 2, api.ErrPaid),
		undone(b, 1), connected(a[0], 1), connected(a[1], 2))
	w.same()
}

// Promise 17.2: copies of the tree and of the coins go their own way.
func TestCopies(t *testing.T) {
	w, s := newWorld(t), newSite(t)
	a, b := s.run(first(), 2, "a"), s.run(first(), 3, "b")
	w.takes(a...)
	x, coins := w.c.Tree(), w.c.Coins()
	x.Add(b[0].Header, late)
	x.Body(idOf(b[0]))
	x.Bad(idOf(a[0]))
	u, _ := w.c.Undo(idOf(a[1]))
	if e := coins.Disconnect(a[1], u, 2); e != api.OK {
		t.Error("Disconnect of a copy", e)
	}
	w.same()
	w.takes(b...)
	if x.Len() != 4 || x.Best() != idOf(b[0]) || coins.Len() != 1 {
		t.Error("a copy follows its chain", x.Len(), coins.Len())
	}
	if again := w.c.Coins(); again == coins || again.Len() != 3 {
		t.Error("the coins", again.Len())
	}
}
