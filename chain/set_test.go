package chain

import (
	"maps"
	"slices"
	"testing"

	"bedrock/api"
	"bedrock/valid"
)

// laid is a tip, the coins behind it, and what undoing its chain takes.
type laid struct {
	tip   api.Hash
	coins *valid.Coins
	undos map[api.Hash]api.Undo
}

// state is what a chain of these blocks comes to, connected from genesis on.
func state(l ...api.Block) laid {
	x := laid{idOf(first()), valid.NewCoins(), map[api.Hash]api.Undo{}}
	for i, b := range l {
		x.tip = idOf(b)
		x.undos[x.tip], _ = x.coins.Connect(b, i+1)
	}
	return x
}

// set lays a state, and asks that what was handed in stays, and is not kept.
func (w *world) set(x laid) api.Errno {
	w.Helper()
	handed := maps.Clone(x.undos)
	for id, u := range handed {
		handed[id] = api.Undo{Spent: slices.Clone(u.Spent)}
	}
	var coins *valid.Coins
	if x.coins != nil {
		coins = x.coins.Clone()
	}
	e := w.c.Set(x.tip, coins, handed)
	if !maps.EqualFunc(handed, x.undos, func(a, b api.Undo) bool { return slices.Equal(a.Spent, b.Spent) }) || coins.Sum() != x.coins.Sum() {
		w.Fatal("what was handed in is changed")
	}
	w.spoilState(x.tip, coins, handed)
	if e == api.OK {
		w.m.tip = w.m.find(x.tip)
	}
	return e
}

// spoilState goes on with a state that was handed in.
func (w *world) spoilState(tip api.Hash, coins *valid.Coins, undos map[api.Hash]api.Undo) {
	if b, ok := w.c.Body(tip); ok {
		coins.Disconnect(b, undos[tip], len(undos))
	}
	for _, u := range undos {
		clear(u.Spent)
	}
	clear(undos)
}

// stand is a world with a trunk of bodies, none of which is activated, and a side chain; the last of the trunk spends.
func stand(t *testing.T) (w *world, s *site, trunk, side []api.Block) {
	w, s = newWorld(t), newSite(t)
	trunk = s.run(first(), 5, "a")
	trunk = append(trunk, s.on(trunk[4], "spend", spends([]api.Point{{Tx: txID(trunk[0].Txs[0])}}, 4000)))
	side = s.run(trunk[1], 5, "b")
	for _, b := range slices.Concat(trunk, side) {
		if e := w.load(b, late); e != api.OK {
			t.Fatal("Load", e)
		}
	}
	w.same()
	return w, s, trunk, side
}

// Promise 17.3: Load of blocks, and then Activate: all the steps at once; nothing is activated ahead of that.
func TestLoad(t *testing.T) {
	w, s, trunk, side := stand(t)
	w.tipIs(first())
	steps := w.activate()
	want := []api.Step{connected(trunk[0], 1), connected(trunk[1], 2)}
	for i, b := range side {
		want = append(want, connected(b, i+3))
	}
	stepsAre(t, steps, want...)
	w.same()
	stepsAre(t, w.activate())
	if e := w.load(s.on(side[4], "c"), late); e != api.OK {
		t.Error("Load on the tip", e)
	}
	w.tipIs(side[4])
	w.same()
	w.activate()
	w.same()
}

// Promise 17.3: Set of each state that may be, Activate from there, and blocks on it.
func TestSet(t *testing.T) {
	for n := range 7 {
		w, s, trunk, side := stand(t)
		if e := w.set(state(trunk[:n]...)); e != api.OK {
			t.Fatal("Set", n, e)
		}
		w.same()
		if steps := w.activate(); len(steps) != 7-n+2*max(n-2, 0) {
			t.Error("steps from", n, "to the best:", steps)
		}
		w.tipIs(side[4])
		w.same()
		w.takes(s.on(side[4], "c"))
	}
}

// Promise 17.3: Set and then a block, which activates; and Invalidate.
func TestSetThenBlocks(t *testing.T) {
	w, s, trunk, side := stand(t)
	w.set(state(trunk...))
	w.takes(s.on(trunk[5], "c"))
	w.tipIs(side[4])
	w.set(state(slices.Concat(trunk[:2], side)...))
	w.same()
	steps, _ := w.invalidate(idOf(side[0]))
	if len(steps) != 5+5 {
		t.Error("steps", steps)
	}
	w.same()
	w.set(state())
	w.same()
	w.activate()
	w.same()
}

// Promise 17.3: undos of other blocks than those of the chain are not kept, genesis' neither.
func TestSetWithMoreUndos(t *testing.T) {
	w, _, trunk, side := stand(t)
	x := state(trunk[:3]...)
	for _, b := range []api.Block{first(), trunk[3], side[0]} {
		x.undos[idOf(b)] = api.Undo{Spent: []api.Coin{{Height: 1}}}
	}
	x.undos[api.Hash{3}] = api.Undo{}
	if e := w.set(x); e != api.OK {
		t.Fatal("Set", e)
	}
	w.absent(api.Hash{3})
	w.same()
	w.activate()
	w.same()
}

// Promise 17.3: each fault of Set alone: ErrState, and nothing is changed.
func TestSetFaults(t *testing.T) {
	faults := map[string]func(w *world, x *laid, trunk, side []api.Block){
		"no coins":             func(w *world, x *laid, _, _ []api.Block) { x.coins = nil },
		"a tip not there":      func(w *world, x *laid, _, _ []api.Block) { x.tip = api.Hash{1} },
		"zeros":                func(w *world, x *laid, _, _ []api.Block) { x.tip = api.Hash{} },
		"other coins":          func(w *world, x *laid, _, side []api.Block) { x.coins = state(side[0]).coins },
		"coins of below":       func(w *world, x *laid, trunk, _ []api.Block) { x.coins = state(trunk[:3]...).coins },
		"an undo less":         func(w *world, x *laid, trunk, _ []api.Block) { delete(x.undos, idOf(trunk[1])) },
		"no undo of the tip":   func(w *world, x *laid, trunk, _ []api.Block) { delete(x.undos, idOf(trunk[3])) },
		"no undo of the first": func(w *world, x *laid, trunk, _ []api.Block) { delete(x.undos, idOf(trunk[0])) },
		"no undos":             func(w *world, x *laid, _, _ []api.Block) { x.undos = nil },
		"bad": func(w *world, x *laid, trunk, _ []api.Block) {
			w.c.Invalidate(x.tip)
			w.m.invalidate(x.tip)
			w.m.activate()
		},
		"on bad": func(w *world, x *laid, trunk, _ []api.Block) {
			w.c.Invalidate(idOf(trunk[0]))
			w.m.invalidate(idOf(trunk[0]))
			w.m.activate()
		},
	}
	for name, spoil := range faults {
		w, _, trunk, side := stand(t)
		if e := w.set(state(trunk[:2]...)); e != api.OK {
			t.Fatal("Set", e)
		}
		x := state(trunk[:4]...)
		spoil(w, &x, trunk, side)
		if e := w.set(x); e != api.ErrState {
			t.Error("Set with", name, e)
		}
		w.same()
	}
}

// Promise 17.3: coins with the tip's id and another height, and with its height and another id.
func TestSetOtherTip(t *testing.T) {
	w, _, trunk, side := stand(t)
	x := state(trunk[:3]...)
	s := x.coins.Bytes()
	tall, e := valid.Of(s[:32] + "\x04" + s[33:])
	if id, height := tall.Tip(); e != api.OK || id != x.tip || height != 4 {
		t.Fatal("Of", e)
	}
	y := x
	y.coins = tall
	if e := w.set(y); e != api.ErrState {
		t.Error("coins of another height", e)
	}
	x.tip = idOf(side[0])
	x.undos[x.tip] = api.Undo{}
	if e := w.set(x); e != api.ErrState {
		t.Error("coins of another tip", e)
	}
	w.same()
}

// Promise 17.3: a block of the chain without a body, at each place of it.
func TestSetWithoutBody(t *testing.T) {
	s := newSite(t)
	l := s.run(first(), 4, "a")
	for i := range l {
		w := newWorld(t)
		for _, b := range l {
			w.header(b.Header, late)
		}
		for j, b := range l {
			if j != i {
				w.load(b, late)
			}
		}
		if e := w.set(state(l...)); e != api.ErrState {
			t.Error("without the body of", i+1, e)
		}
		if e := w.set(state(l[:i]...)); e != api.OK {
			t.Error("up to the last body", e)
		}
		w.same()
	}
}

// Rule R1: a state that is none is taken, as nobody can see that; what can't be undone then ends the way there.
func TestSetOfWhatIsNone(t *testing.T) {
	w, s, trunk, side := stand(t)
	x := state(trunk...)
	x.undos[idOf(trunk[5])] = api.Undo{}
	if e := w.c.Set(x.tip, x.coins, x.undos); e != api.OK {
		t.Fatal("Set", e)
	}
	if steps := w.c.Activate(); len(steps) != 0 {
		t.Error("steps from what can't be undone", steps)
	}
	if _, e := w.c.Block(s.on(side[4], "c"), late); e != api.OK {
		t.Error("Block", e)
	}
	if id, height := w.c.Tip(); id != x.tip || height != 6 {
		t.Error("Tip", height)
	}
}
