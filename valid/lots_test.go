package valid

import (
	"math/rand"
	"slices"
	"strconv"
	"testing"

	"bedrock/api"
)

// done is a block that was connected, its undo, and the set's bytes ahead of it.
type done struct {
	b      api.Block
	u      api.Undo
	before string
}

// script is a set to which blocks are connected and undone by lots.
type script struct {
	*world
	lots  *rand.Rand
	stack []done
	found map[api.Errno]int
}

// lotKey is one of few keys; its lock is one of those that it opens.
func (s *script) lotKey() string { return "key" + strconv.Itoa(s.lots.Intn(4)) }

func (s *script) lotLock() string {
	if s.lots.Intn(3) == 0 {
		return ""
	}
	return lockOf(s.lotKey(), []int{1, 4, 32}[s.lots.Intn(3)])
}

// opening is a key that opens a lock.
func (s *script) opening(lock string) string {
	for i := range 4 {
		if key := "key" + strconv.Itoa(i); opens(lock, key) {
			return key
		}
	}
	return ""
}

// lotTx is a transaction that spends some of what is there, mostly as it should.
func (s *script) lotTx(m model, height int) api.Tx {
	t := api.Tx{Version: uint32(s.lots.Intn(3)), Time: uint32(s.lots.Intn(2) * s.lots.Intn(height+1))}
	var has uint64
	for range 1 + s.lots.Intn(3) {
		x := m.spots[s.lots.Intn(len(m.spots))]
		if x.coin.Coinbase && height < x.coin.Height+4 && s.lots.Intn(20) > 0 {
			continue
		}
		if slices.ContainsFunc(t.Ins, func(in api.In) bool { return in.Point == x.point }) {
			continue
		}
		t.Ins = append(t.Ins, api.In{Point: x.point, Key: s.opening(x.coin.Out.Lock), Sequence: 4294967295 - uint32(s.lots.Intn(2))})
		has += x.coin.Out.Value
	}
	for range 1 + s.lots.Intn(3) {
		v := uint64(s.lots.Intn(int(has) + 1))
		has -= v
		t.Outs = append(t.Outs, api.Out{Value: v, Lock: s.lotLock()})
	}
	return t
}

// lotBlock is a block by lots on the tip, mostly as it should be.
func (s *script) lotBlock() (api.Block, int) {
	height := s.m.height + 1
	first := base(height, uint64(1+s.lots.Intn(2500)), 5000-2500>>(height/64))
	first.Outs[s.lots.Intn(2)].Lock = s.lotLock()
	txs := []api.Tx{first}
	x := played{set: s.m, fees: all()}
	mine := map[api.Point]struct{}{}
	x.add(first, 1000, height, mine)
	for range s.lots.Intn(6) {
		t := s.lotTx(x.set, height)
		if len(t.Ins) == 0 {
			continue
		}
		before := x.set
		if x.add(t, 1000, height, mine) != 0 {
			x.set = before
			if s.lots.Intn(6) > 0 {
				continue // most of those that may not be are left out
			}
		}
		txs = append(txs, t)
	}
	s.tinker(txs)
	b := sealed(s.m.tip, 1000, txs...)
	if s.lots.Intn(20) == 0 {
		b.Header.Prev[0]++
	}
	return b, height
}

// tinker changes something in one of some transactions, sometimes.
func (s *script) tinker(txs []api.Tx) {
	t := &txs[s.lots.Intn(len(txs))]
	t.Ins, t.Outs = slices.Clone(t.Ins), slices.Clone(t.Outs)
	switch s.lots.Intn(24) {
	case 0:
		t.Outs[0].Value += uint64(s.lots.Intn(6000))
	case 1:
		t.Ins[0].Key += "x"
	case 2:
		t.Ins[0].Point.Index++
	case 3:
		i, j := s.lots.Intn(len(txs)), s.lots.Intn(len(txs))
		txs[i], txs[j] = txs[j], txs[i]
	case 4:
		t.Ins = append(t.Ins, txs[0].Ins[0])
	case 5:
		t.Time, t.Ins[0].Sequence = 500001000, 0
	case 6:
		*t = txs[len(txs)-1]
	case 7:
		txs[0] = base(200+len(txs), 5)
	}
}

// spoil is an undo in which something was changed.
func (s *script) spoil(u api.Undo) api.Undo {
	l := slices.Clone(u.Spent)
	switch n := s.lots.Intn(4); {
	case n == 0 || len(l) == 0:
		l = append(l, plain(1, 0))
	case n == 1:
		l = l[:len(l)-1]
	case n == 2:
		l[s.lots.Intn(len(l))].Height = s.m.height
	default:
		l[s.lots.Intn(len(l))].Height = -1
	}
	return api.Undo{Spent: l}
}

// undo undoes the block that was connected last, behind some tries that are refused.
func (s *script) undo() {
	s.Helper()
	height, last := s.m.height, s.stack[len(s.stack)-1]
	s.found[s.disconnects(last.b, s.spoil(last.u), height)]++
	s.found[s.disconnects(last.b, last.u, height-s.lots.Intn(2)*height-1)]++
	other := last.b
	other.Txs = slices.Clone(other.Txs)
	s.tinker(other.Txs)
	if clone := (&world{s.T, s.c.Clone(), s.m}); !slices.EqualFunc(other.Txs, last.b.Txs, func(a, b api.Tx) bool { return txText(a) == txText(b) }) {
		s.found[clone.disconnects(other, last.u, height)]++
	}
	if e := s.disconnects(last.b, last.u, height); e != api.OK || s.c.Bytes() != last.before {
		s.Fatal("Disconnect", e)
	}
	s.stack = s.stack[:len(s.stack)-1]
}

// step does something by lots.
func (s *script) step() {
	s.Helper()
	switch n := s.lots.Intn(10); {
	case n == 0 && len(s.stack) > 0:
		for range 1 + s.lots.Intn(len(s.stack)) {
			s.undo()
		}
	case n == 1:
		c, e := Of(s.c.Bytes())
		if e != api.OK {
			s.Fatal("Of of Bytes", e)
		}
		s.c = c
		s.same()
	case n == 2:
		s.c = s.c.Clone()
		s.same()
	default:
		b, height := s.lotBlock()
		before := s.c.Bytes()
		u, e := s.connects(b, height)
		s.found[e]++
		if e == api.OK {
			raw, _ := Encode(u)
			u, _ = Decode(raw)
			s.stack = append(s.stack, done{b, u, before})
		}
	}
}

// Promises 16.2, 16.3 and 16.7: scripts by lots, each step held against the model.
func TestScriptsByLots(t *testing.T) {
	found := map[api.Errno]int{}
	for seed := range int64(60) {
		s := &script{world: newWorld(t), lots: rand.New(rand.NewSource(1600 + seed)), found: found}
		for range 60 {
			s.step()
		}
		for len(s.stack) > 0 {
			s.undo()
		}
		if s.c.Len() != 0 || s.m.height != 0 {
			t.Fatal("something is left", s.c.Len())
		}
	}
	for _, e := range []api.Errno{
		api.OK, api.ErrTip, api.ErrUndo, api.ErrFinal, api.ErrAgain, api.ErrSpent, api.ErrYoung, api.ErrLocked,
		api.ErrFunds, api.ErrPaid, api.ErrFirst, api.ErrHeight, api.ErrNull,
	} {
		if found[e] == 0 {
			t.Error("never told:", e)
		}
	}
	t.Log(found)
}

// Promise 16.7: a block makes no more than its reward: the total grows by at most that.
func TestNoMoreThanTheReward(t *testing.T) {
	lots := rand.New(rand.NewSource(167))
	for _, height := range []int{1, 63, 64, 700, 64 * 13} {
		reward := uint64(5000) >> (height / 64)
		for range 100 {
			w := risen(t, stock(4, height-1))
			txs := []api.Tx{base(height, uint64(lots.Intn(int(reward)+220)))}
			for i := range lots.Intn(3) {
				txs = append(txs, spends([]api.Point{point(i)}, uint64(lots.Intn(110))))
			}
			before := w.c.Total()
			if _, e := w.connects(sealed(w.m.tip, 0, txs...), height); e == api.OK && w.c.Total() > before+reward {
				t.Fatal("a block made", w.c.Total()-before)
			}
		}
	}
}
