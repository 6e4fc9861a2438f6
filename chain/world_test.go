package chain

import (
	"reflect"
	"slices"
	"testing"

	"bedrock/api"
	"bedrock/block"
	"bedrock/tx"
)

// late is a time at which no header is ahead of the clock.
const late = 1<<32 - 1

// world is a chain and the model of it.
type world struct {
	*testing.T
	c *Chain
	m *model
}

func newWorld(t *testing.T) *world {
	w := &world{t, New(), newModel()}
	w.same()
	return w
}

// same holds all that the chain tells against the model; each answer is spoiled, as it is to be memory of its own.
func (w *world) same() {
	w.Helper()
	w.sameTip()
	x, bodies := w.c.Tree(), 0
	if x.Len() != len(w.m.l) {
		w.Fatal("headers", x.Len(), "not", len(w.m.l))
	}
	for i, k := range w.m.l {
		n, _ := x.Get(k.id)
		if n.Header != k.block.Header || n.Order != i || n.Body != k.body || n.Turn != k.turn || n.Whole != (k.turn > 0) || n.Bad != w.m.bad(i) {
			w.Fatalf("the tree's %d: %+v, not %+v", i, n, k)
		}
		w.sameBody(i)
		w.sameUndo(i)
		if k.body {
			bodies++
		}
	}
	if got := w.c.Bodies(); got != bodies {
		w.Fatal("Bodies", got, "not", bodies)
	}
	w.absent(api.Hash{1, 2, 3})
}

// sameTip is same of the tip, its chain and its coins.
func (w *world) sameTip() {
	w.Helper()
	way := w.m.way(w.m.tip)
	id, height := w.c.Tip()
	if id != w.m.l[w.m.tip].id || height != len(way)-1 {
		w.Fatalf("Tip %x %d, not %x %d", id, height, w.m.l[w.m.tip].id, len(way)-1)
	}
	for h, i := range way {
		if id, ok := w.c.Active(h); id != w.m.l[i].id || !ok {
			w.Fatalf("Active of %d: %x, not %x", h, id, w.m.l[i].id)
		}
	}
	for _, h := range []int{-1 << 63, -2, -1, len(way), len(way) + 1, 1<<63 - 1} {
		if id, ok := w.c.Active(h); id != (api.Hash{}) || ok {
			w.Fatalf("Active of %d: %x", h, id)
		}
	}
	if p := w.m.play(w.m.tip); w.c.Coins().Sum() != p.coins.Sum() {
		w.Fatal("other coins than those connected from genesis")
	}
}

// sameBody is Has and Body of one that is known.
func (w *world) sameBody(i int) {
	w.Helper()
	k := w.m.l[i]
	want := api.Block{}
	if k.body {
		want = k.block
	}
	b, is := w.c.Body(k.id)
	if has := w.c.Has(k.id); is != k.body || has != k.body || !reflect.DeepEqual(b, want) && !block.Same(b, want) {
		w.Fatal("Body or Has of", i, is, has, b)
	}
	spoilBlock(b)
}

// sameUndo is Undo of one that is known.
func (w *world) sameUndo(i int) {
	w.Helper()
	var want []api.Coin
	connected := i > 0 && slices.Contains(w.m.way(w.m.tip), i)
	if connected {
		want = w.m.play(i).undo.Spent
	}
	u, is := w.c.Undo(w.m.l[i].id)
	if is != connected || !slices.Equal(u.Spent, want) {
		w.Fatalf("Undo of %d: %v %t, not %v %t", i, u, is, want, connected)
	}
	clear(u.Spent[:cap(u.Spent)])
}

// absent is what is told of an id that is not there.
func (w *world) absent(id api.Hash) {
	w.Helper()
	b, is := w.c.Body(id)
	u, undo := w.c.Undo(id)
	if w.c.Has(id) || is || undo || !reflect.DeepEqual(b, api.Block{}) || len(u.Spent) > 0 {
		w.Fatal("something of what is not there", b, u)
	}
}

// spoilBlock writes over a block's lists.
func spoilBlock(b api.Block) {
	for _, t := range b.Txs {
		clear(t.Ins[:cap(t.Ins)])
		clear(t.Outs[:cap(t.Outs)])
	}
	clear(b.Txs[:cap(b.Txs)])
}

// twin is a block of memory of its own.
func twin(b api.Block) api.Block {
	b.Txs = slices.Clone(b.Txs)
	for i, t := range b.Txs {
		b.Txs[i].Ins, b.Txs[i].Outs = slices.Clone(t.Ins), slices.Clone(t.Outs)
	}
	return b
}

// header hands a header in.
func (w *world) header(h api.Header, now uint32) api.Errno {
	w.Helper()
	want, wantE := w.m.header(h, now)
	if is, e := w.c.Header(h, now); is != want || e != wantE {
		w.Fatal("Header", is, e, "not", want, wantE)
	}
	return wantE
}

// block hands a block in: the steps, and the error.
func (w *world) block(b api.Block, now uint32) ([]api.Step, api.Errno) {
	w.Helper()
	handed := twin(b)
	steps, e := w.c.Block(handed, now)
	if !reflect.DeepEqual(handed, twin(b)) {
		w.Fatal("what was handed in is changed")
	}
	spoilBlock(handed)
	wantE := w.m.load(b, now)
	var want []api.Step
	if wantE == 0 {
		want = w.m.activate()
	}
	if e != wantE || !slices.Equal(steps, want) {
		w.Fatalf("Block: %v %d, not %v %d", steps, e, want, wantE)
	}
	clear(steps[:cap(steps)])
	return want, wantE
}

// load hands a block in that is not activated.
func (w *world) load(b api.Block, now uint32) api.Errno {
	w.Helper()
	handed := twin(b)
	e, want := w.c.Load(handed, now), w.m.load(b, now)
	if e != want || !reflect.DeepEqual(handed, twin(b)) {
		w.Fatal("Load", e, "not", want)
	}
	spoilBlock(handed)
	return want
}

// activate activates.
func (w *world) activate() []api.Step {
	w.Helper()
	steps, want := w.c.Activate(), w.m.activate()
	if !slices.Equal(steps, want) {
		w.Fatalf("Activate: %v, not %v", steps, want)
	}
	return want
}

// invalidate has a block be bad.
func (w *world) invalidate(id api.Hash) ([]api.Step, api.Errno) {
	w.Helper()
	steps, e := w.c.Invalidate(id)
	wantE := w.m.invalidate(id)
	var want []api.Step
	if wantE == 0 {
		want = w.m.activate()
	}
	if e != wantE || !slices.Equal(steps, want) {
		w.Fatalf("Invalidate: %v %d, not %v %d", steps, e, want, wantE)
	}
	return want, wantE
}

// takes hands blocks in that are not refused by themselves, and asks for everything behind each.
func (w *world) takes(l ...api.Block) {
	w.Helper()
	for _, b := range l {
		if _, e := w.block(b, late); e != api.OK {
			w.Fatal("Block", e)
		}
		w.same()
	}
}

// tipIs asks for the tip.
func (w *world) tipIs(b api.Block) {
	w.Helper()
	if id, _ := w.c.Tip(); id != block.ID(b.Header) {
		w.Fatalf("the tip is %x", id)
	}
}

// stepsAre asks for steps: how many are undone, which are connected, and whether one is refused behind these.
func stepsAre(t *testing.T, steps []api.Step, want ...api.Step) {
	t.Helper()
	if !slices.Equal(steps, want) {
		t.Errorf("steps %v, not %v", steps, want)
	}
}

func idOf(b api.Block) api.Hash { return block.ID(b.Header) }

func undone(b api.Block, height int) api.Step {
	return api.Step{Kind: 1, ID: idOf(b), Height: height}
}

func connected(b api.Block, height int) api.Step {
	return api.Step{Kind: 2, ID: idOf(b), Height: height}
}

func refused(b api.Block, height int, e api.Errno) api.Step {
	return api.Step{Kind: 3, ID: idOf(b), Height: height, Err: e}
}

// site is where blocks are built: it knows the height of each, and which bits stand on it.
type site struct {
	*testing.T
	m *model
}

func newSite(t *testing.T) *site { return &site{t, newModel()} }

// first is genesis.
func first() api.Block { return block.Genesis() }

// base is a coinbase.
func base(height int, name string, values ...uint64) api.Tx {
	outs := []api.Out{}
	for _, v := range values {
		outs = append(outs, api.Out{Value: v})
	}
	b, _ := block.Coinbase(height, name, outs...)
	return b
}

// height is that of the next block on one.
func (s *site) height(on api.Block) int { return s.m.height(s.m.find(idOf(on))) + 1 }

// on is a block on another one, with a coinbase of 5000 under a name.
func (s *site) on(prev api.Block, name string, txs ...api.Tx) api.Block {
	return s.later(prev, 69, name, txs...)
}

// later is a block so many seconds behind the one it stands on.
func (s *site) later(prev api.Block, seconds uint32, name string, txs ...api.Tx) api.Block {
	s.Helper()
	return s.of(prev, seconds, append([]api.Tx{base(s.height(prev), name, 5000)}, txs...)...)
}

// of is a block of just these transactions.
func (s *site) of(prev api.Block, seconds uint32, txs ...api.Tx) api.Block {
	s.Helper()
	b, e := block.Build(idOf(prev), prev.Header.Time+seconds, s.m.headers.NextBits(idOf(prev)), txs...)
	if e != api.OK {
		s.Fatal("Build", e)
	}
	if _, e = s.m.header(b.Header, late); e != api.OK {
		s.Fatal("a header that may not be", e)
	}
	return b
}

// run is so many blocks, each on the one ahead of it.
func (s *site) run(prev api.Block, count int, name string) []api.Block {
	var l []api.Block
	for range count {
		prev = s.on(prev, name)
		l = append(l, prev)
	}
	return l
}

// spends is a transaction of empty keys that spends points, and pays values to nobody's lock.
func spends(points []api.Point, values ...uint64) api.Tx {
	t := api.Tx{Version: 1}
	for _, p := range points {
		t.Ins = append(t.Ins, api.In{Point: p, Sequence: 4294967295})
	}
	for _, v := range values {
		t.Outs = append(t.Outs, api.Out{Value: v})
	}
	return t
}

// greedy is a block that may be by itself, but pays itself too much.
func (s *site) greedy(prev api.Block, name string) api.Block {
	return s.of(prev, 69, base(s.height(prev), name, 5001))
}

func txID(t api.Tx) api.Hash {
	id, _ := tx.ID(t)
	return id
}
