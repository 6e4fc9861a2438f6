package valid

import (
	"math"
	"slices"
	"strings"
	"testing"

	"bedrock/api"
	"bedrock/block"
)

// Promise 16.2: a block that is just good: what is spent is gone, what is made is there, the tip is it, the undo is told in the order of the inputs.
func TestConnect(t *testing.T) {
	m, b, height := spoiled()
	w := risen(t, m)
	if fees, place, e := w.c.Would(b, height); fees != 20 || place != 0 || e != api.OK {
		t.Fatal("Would", fees, place, e)
	}
	u := w.takes(b, height)
	if tip, h := w.c.Tip(); tip != idOf(b.Header) || h != 101 || len(u.Spent) != 8 {
		t.Fatal("Tip", tip, h, len(u.Spent))
	}
	for place := 1; place < sceneTxs; place++ {
		for input := range 2 {
			p := point(10*place + input)
			w.absent(p)
			if u.Spent[2*(place-1)+input] != m.spots[m.find(p)].coin {
				t.Error("the undo", place, input)
			}
		}
		for i, v := range []uint64{8, 7} {
			if coin, there := w.c.Get(out(b.Txs[place], i)); !there || coin != plain(v, 101) {
				t.Error("Get of an output", coin, there)
			}
		}
	}
	coin, there := w.c.Get(out(b.Txs[0], 1))
	if want := (api.Coin{Out: api.Out{Value: 20}, Height: 101, Coinbase: true}); coin != want || !there {
		t.Error("Get of a coinbase's output", coin, there)
	}
	if w.c.Len() != 10 || w.c.Total() != 2500+20+60 {
		t.Error("Len and Total", w.c.Len(), w.c.Total())
	}
}

// Promise 16.2: each fault alone, at each place: its error, its place, and nothing is changed.
func TestConnectEachFault(t *testing.T) {
	for _, f := range rots() {
		m, b, height := spoiled(f)
		risen(t, m).refuses(f.name, b, height, f.place, f.want)
	}
}

// Promise 16.2: each two faults at once, in one transaction and in two: the first one in the order of the chapter is told.
func TestConnectEachTwoFaults(t *testing.T) {
	l := rots()
	for i, f := range l {
		for _, g := range l[i+1:] {
			first := f
			if g.rank < f.rank {
				first = g
			}
			if f.rank == g.rank || f.want == api.ErrLong && g.want == api.ErrNoTxs {
				continue // two of one kind, or that can't be at once
			}
			m, b, height := spoiled(f, g)
			risen(t, m).refuses(f.name+" and "+g.name, b, height, first.place, first.want)
		}
	}
}

// Promise 16.2: three faults at once, those of one transaction among them.
func TestConnectThreeFaults(t *testing.T) {
	l := append(placeRots(2), inputRots(2, 1)...)
	l = append(append(l, otherRots(2)[1]), inputRots(3, 0)...)
	for i, f := range l {
		for j, g := range l[:i] {
			for _, h := range l[:j] {
				three := []rot{f, g, h}
				first := slices.MinFunc(three, func(a, b rot) int { return a.rank - b.rank })
				if f.rank == g.rank || g.rank == h.rank {
					continue
				}
				m, b, height := spoiled(three...)
				risen(t, m).refuses("three faults", b, height, first.place, first.want)
			}
		}
	}
}

// Promise 16.2: heights that are not the tip's and 1, the greatest and the least of all with them; those at which a coinbase can tell none.
func TestConnectHeights(t *testing.T) {
	w := newWorld(t)
	b, _ := w.next()
	for _, height := range []int{0, 2, -1, 3, math.MinInt, math.MaxInt, 1 << 32, 1<<32 + 1, 1<<31 - 1, 1 << 31} {
		w.refuses("another height", b, height, 0, api.ErrTip)
	}
	w.takes(b, 1)
	w.refuses("the same once more", b, 1, 0, api.ErrTip)
	w.refuses("the same above itself", b, 2, 0, api.ErrTip)
	top := risen(t, model{height: 1<<31 - 1})
	high := sealed(api.Hash{}, 0, base(1<<31-1, 0))
	for _, height := range []int{math.MinInt32, -1, 0, 1, 1<<31 - 1} {
		top.refuses("above all", high, height, 0, api.ErrTip)
	}
	top.refuses("a height above 2^31 - 1", high, 1<<31, 0, api.ErrHeight)
	top.refuses("a height above 2^31 - 1, in the key", sealed(api.Hash{}, 0, base(1<<31, 0)), 1<<31, 0, api.ErrHeight)
	last := risen(t, model{height: 1<<31 - 2})
	last.takes(high, 1<<31-1)
	if e := last.disconnects(high, api.Undo{}, 1<<31-1); e != api.OK {
		t.Error("Disconnect of the greatest height", e)
	}
}

// Promise 16.2: a coinbase that is just young and just not; other coins may be spent at once.
func TestConnectYoung(t *testing.T) {
	for _, x := range []struct {
		from int
		base bool
		want api.Errno
	}{
		{0, true, api.OK}, {6, true, api.OK}, {7, true, api.ErrYoung}, {8, true, api.ErrYoung}, {9, true, api.ErrYoung},
		{6, false, api.OK}, {7, false, api.OK}, {9, false, api.OK},
	} {
		m := model{height: 9}.with(point(1), api.Coin{Out: api.Out{Value: 5}, Height: x.from, Coinbase: x.base})
		w := risen(t, m)
		b, height := w.next(spends([]api.Point{point(1)}, 5))
		if _, e := w.connects(b, height); e != x.want {
			t.Error("Connect at 10 of a coin of", x.from, x.base, e)
		}
	}
	w := newWorld(t)
	own := base(1, 5)
	b := sealed(w.m.tip, 0, own, spends([]api.Point{out(own, 0)}, 5))
	w.refuses("one that spends its own coinbase", b, 1, 1, api.ErrYoung)
}

// Promise 16.2: locks of all lengths, and the keys that just open them.
func TestConnectLocks(t *testing.T) {
	for _, x := range []struct {
		lock, key string
		want      api.Errno
	}{
		{"", "", api.OK}, {"", "k", api.OK}, {"", strings.Repeat("k", 520), api.OK},
		{lockOf("k", 1), "k", api.OK}, {lockOf("k", 31), "k", api.OK}, {lockOf("k", 32), "k", api.OK}, {lockOf("", 32), "", api.OK},
		{lockOf("k", 32), "K", api.ErrLocked}, {lockOf("k", 32), "", api.ErrLocked}, {lockOf("k", 4), "kk", api.ErrLocked},
		{lockOf("k", 32) + "x", "k", api.ErrLocked}, {strings.Repeat("l", 520), "k", api.ErrLocked}, {"k", "k", api.ErrLocked},
	} {
		coin := plain(5, 1)
		coin.Out.Lock = x.lock
		w := risen(t, model{height: 9}.with(point(1), coin))
		s := spends([]api.Point{point(1)}, 5)
		s.Ins[0].Key = x.key
		b, height := w.next(s)
		if _, e := w.connects(b, height); e != x.want {
			t.Errorf("Connect of the key %q: %d, not %d", x.key, e, x.want)
		}
	}
}

// Promise 16.2: final by the height and by the header's time, just so and just not; the coinbase, too.
func TestConnectFinal(t *testing.T) {
	for _, x := range []struct {
		time, sequence, header uint32
		want                   api.Errno
	}{
		{0, 0, 0, api.OK}, {9, 0, 0, api.OK}, {10, 0, 0, api.ErrFinal}, {10, 4294967295, 0, api.OK}, {10, 4294967294, 0, api.ErrFinal},
		{499999999, 0, 4294967295, api.ErrFinal}, {500000000, 0, 500000000, api.ErrFinal}, {500000000, 0, 500000001, api.OK},
		{1600000000, 0, 1600000000, api.ErrFinal}, {1600000000, 0, 1600000001, api.OK}, {4294967295, 0, 4294967295, api.ErrFinal},
		{4294967295, 4294967295, 0, api.OK},
	} {
		for place := range 2 {
			w := risen(t, stock(1, 9))
			txs := []api.Tx{base(10, 5), spends([]api.Point{point(0)}, 5)}
			txs[place].Time, txs[place].Ins[0].Sequence = x.time, x.sequence
			b := sealed(w.m.tip, x.header, txs...)
			if x.want == api.OK {
				w.takes(b, 10)
			} else {
				w.refuses("one that is not final", b, 10, place, x.want)
			}
		}
	}
}

// Promise 16.2: what the same block made ahead may be spent, at once and once; what it makes behind may not.
func TestConnectChained(t *testing.T) {
	a := spends([]api.Point{point(0)}, 60, 40)
	b := spends([]api.Point{out(a, 0), point(1)}, 160)
	c := spends([]api.Point{out(b, 0), out(a, 1)}, 190)
	for _, x := range []struct {
		txs   []api.Tx
		spent int
		left  []api.Point
	}{
		{[]api.Tx{a}, 1, []api.Point{out(a, 0), out(a, 1), point(1), point(2)}},
		{[]api.Tx{a, b}, 2, []api.Point{out(a, 1), out(b, 0), point(2)}},
		{[]api.Tx{a, b, c}, 2, []api.Point{out(c, 0), point(2)}},
		{[]api.Tx{a, spends([]api.Point{point(2)}, 1), b, c}, 3, []api.Point{out(c, 0)}},
	} {
		w := risen(t, stock(3, 20))
		before := w.c.Bytes()
		good, height := w.next(x.txs...)
		u := w.takes(good, height)
		if len(u.Spent) != x.spent {
			t.Error("an undo of", len(u.Spent))
		}
		for _, p := range x.left {
			if _, there := w.c.Get(p); !there {
				t.Error("an output is not there")
			}
		}
		for _, p := range []api.Point{out(a, 0), out(b, 0), out(c, 0), out(a, 1), point(0)} {
			if _, there := w.c.Get(p); there != slices.Contains(x.left, p) {
				t.Error("an output is there that the block spent")
			}
		}
		if w.disconnects(good, u, height) != api.OK || w.c.Bytes() != before {
			t.Error("Disconnect")
		}
	}
	for _, x := range []struct {
		txs   []api.Tx
		place int
	}{
		{[]api.Tx{b, a}, 1}, {[]api.Tx{a, c, b}, 2}, {[]api.Tx{c, b, a}, 1},
		{[]api.Tx{a, b, spends([]api.Point{out(a, 0)}, 1)}, 3},
		{[]api.Tx{a, spends([]api.Point{point(0)}, 1)}, 2},
		{[]api.Tx{a, spends([]api.Point{point(2), point(0)}, 1)}, 2},
		{[]api.Tx{a, spends([]api.Point{out(a, 2)}, 1)}, 2},
		{[]api.Tx{spends([]api.Point{point(1)}, 1), a, b}, 3},
	} {
		w := risen(t, stock(3, 20))
		bad, height := w.next(x.txs...)
		w.refuses("what is not there yet, or not any more", bad, height, x.place, api.ErrSpent)
	}
}

// Promise 16.2: just as much as the inputs have, and one more; those that the same block made count.
func TestConnectFunds(t *testing.T) {
	made := spends([]api.Point{point(2)}, 70, 30)
	for _, x := range []struct {
		ins    []api.Point
		values []uint64
		want   api.Errno
		fee    uint64
	}{
		{[]api.Point{point(0)}, []uint64{100}, api.OK, 0},
		{[]api.Point{point(0)}, []uint64{99}, api.OK, 1},
		{[]api.Point{point(0)}, []uint64{0}, api.OK, 100},
		{[]api.Point{point(0)}, []uint64{101}, api.ErrFunds, 0},
		{[]api.Point{point(0)}, []uint64{50, 51}, api.ErrFunds, 0},
		{[]api.Point{point(0), point(1)}, []uint64{50, 150}, api.OK, 0},
		{[]api.Point{point(0), point(1)}, []uint64{0, 0, 201}, api.ErrFunds, 0},
		{[]api.Point{out(made, 0)}, []uint64{70}, api.OK, 0},
		{[]api.Point{out(made, 0)}, []uint64{71}, api.ErrFunds, 0},
		{[]api.Point{out(made, 1), point(0)}, []uint64{130}, api.OK, 0},
		{[]api.Point{out(made, 1), point(0)}, []uint64{131}, api.ErrFunds, 0},
		{[]api.Point{point(0)}, []uint64{1000000}, api.ErrFunds, 0},
	} {
		w := risen(t, stock(3, 20))
		b, height := w.next(made, spends(x.ins, x.values...))
		if x.want != api.OK {
			w.refuses("too much", b, height, 2, x.want)
			continue
		}
		if fee, _, _ := w.c.Would(b, height); fee != x.fee {
			t.Error("Would", fee, "not", x.fee)
		}
		w.takes(b, height)
	}
}

// Promise 16.2: the reward and all fees together, and one more, at the heights of each reward.
func TestConnectPaid(t *testing.T) {
	for _, x := range []struct {
		height int
		reward uint64
	}{{1, 5000}, {63, 5000}, {64, 2500}, {127, 2500}, {128, 1250}, {256, 312}, {64*13 - 1, 1}, {64 * 13, 0}, {5000, 0}, {1 << 30, 0}} {
		for _, fees := range [][]uint64{nil, {0}, {100}, {7, 0, 5}} {
			var txs []api.Tx
			most := x.reward
			for i, fee := range fees {
				txs = append(txs, spends([]api.Point{point(i)}, 100-fee))
				most += fee
			}
			for _, more := range []uint64{0, 1} {
				w := risen(t, stock(3, x.height-1))
				b := sealed(w.m.tip, 0, append([]api.Tx{base(x.height, 0, most+more)}, txs...)...)
				if more > 0 {
					w.refuses("more than the reward and all fees", b, x.height, 0, api.ErrPaid)
				} else {
					w.takes(b, x.height)
				}
			}
		}
	}
}

// Promise 16.2: an id of which an output is there, as the transactions ahead left it, at whatever place; one of which none is.
func TestConnectAgain(t *testing.T) {
	a := spends([]api.Point{point(0)}, 60, 40)
	for _, index := range []uint32{0, 1, 2, 77, 4294967295} {
		p := api.Point{Tx: txID(a), Index: index}
		w := risen(t, stock(3, 20).with(p, plain(5, 3)))
		b, height := w.next(a)
		w.refuses("an id of which one is there", b, height, 1, api.ErrAgain)
		b, height = w.next(spends([]api.Point{p}, 5), a)
		w.takes(b, height)
	}
	m := stock(3, 20).with(out(a, 0), plain(60, 3)).with(out(a, 1), plain(40, 4))
	w := risen(t, m)
	b, height := w.next(spends([]api.Point{out(a, 0)}, 5), a)
	w.refuses("an id of which one of two is there", b, height, 2, api.ErrAgain)
	b, height = w.next(spends([]api.Point{out(a, 0)}, 5), spends([]api.Point{out(a, 1)}, 5), a)
	before := w.c.Bytes()
	w.takes(b, height)
	if coin, _ := w.c.Get(out(a, 1)); coin != plain(40, 21) || w.c.Bytes() == before {
		t.Error("what was made again", coin)
	}
	w = risen(t, stock(3, 20))
	b, height = w.next(a, spends([]api.Point{point(1)}, 1), a)
	w.refuses("one twice", b, height, 3, api.ErrAgain)
	b, height = w.next(a, spends([]api.Point{out(a, 0)}, 1), a)
	w.refuses("one twice, of which one is there", b, height, 3, api.ErrAgain)
	b, height = w.next(a, spends([]api.Point{out(a, 0), out(a, 1)}, 1), a)
	w.refuses("one twice, of which none is there", b, height, 3, api.ErrSpent)
}

// Promise 16.2: the same of what blocks ahead made, spent in part, spent whole and got back.
func TestConnectAgainBehind(t *testing.T) {
	type step struct {
		b      api.Block
		u      api.Undo
		height int
	}
	a := spends([]api.Point{point(0)}, 40, 30, 30)
	w := risen(t, stock(3, 20))
	var way []step
	goOn := func(txs ...api.Tx) {
		b, height := w.next(txs...)
		way = append(way, step{b, w.takes(b, height), height})
	}
	back := func() {
		last := way[len(way)-1]
		if e := w.disconnects(last.b, last.u, last.height); e != api.OK {
			t.Fatal("Disconnect", last.height, e)
		}
		way = way[:len(way)-1]
	}
	again := func(what string, place int, want api.Errno, txs ...api.Tx) {
		t.Helper()
		b, height := w.next(txs...)
		w.refuses(what, b, height, place, want)
	}
	goOn(a)
	again("all three are there", 1, api.ErrAgain, a)
	goOn(spends([]api.Point{out(a, 1)}, 30))
	again("two are there", 1, api.ErrAgain, a)
	goOn(spends([]api.Point{out(a, 0)}, 30))
	again("one is there", 1, api.ErrAgain, a)
	again("one is spent ahead", 2, api.ErrSpent, spends([]api.Point{out(a, 2)}, 1), a)
	goOn(spends([]api.Point{out(a, 2)}, 30))
	again("none is there", 1, api.ErrSpent, a)
	for range 3 {
		back()
		again("one is back", 1, api.ErrAgain, a)
	}
	goOn(spends([]api.Point{out(a, 0), out(a, 1), out(a, 2)}, 100))
	again("all are spent at once", 1, api.ErrSpent, a)
	back()
	back()
	goOn(a, spends([]api.Point{out(a, 0), out(a, 1)}, 70))
	again("one is left of its own block", 1, api.ErrAgain, a)
	back()
	goOn(a, spends([]api.Point{out(a, 0), out(a, 1), out(a, 2)}, 100))
	again("none is left of its own block", 1, api.ErrSpent, a)
	back()
	goOn(a)
	again("it is made again", 1, api.ErrAgain, a)
}

// Promise 16.2: the same for a coinbase.
func TestConnectAgainBase(t *testing.T) {
	again := base(21, 5)
	w := risen(t, stock(1, 20).with(out(again, 6), plain(1, 1)))
	w.refuses("a coinbase of which one is there", sealed(w.m.tip, 0, again), 21, 0, api.ErrAgain)
	b := sealed(w.m.tip, 0, base(21, 6), spends([]api.Point{out(again, 6)}, 1))
	u := w.takes(b, 21)
	if w.disconnects(b, u, 21) != api.OK {
		t.Error("Disconnect")
	}
}

// Promise 16.2: a point that is spent, made again and spent again in one block.
func TestConnectMadeAgain(t *testing.T) {
	p := spends([]api.Point{point(0)}, 90)
	x := spends([]api.Point{out(p, 0)}, 80)
	y := spends([]api.Point{out(x, 0)}, 70)
	w := risen(t, stock(3, 20).with(out(p, 0), plain(85, 5)))
	b, height := w.next(x, y, p, x)
	u := w.takes(b, height)
	if want := []api.Coin{plain(85, 5), plain(100, 10)}; !slices.Equal(u.Spent, want) {
		t.Error("the undo", u.Spent)
	}
	if coin, there := w.c.Get(out(x, 0)); coin != plain(80, 21) || !there {
		t.Error("what was made last", coin, there)
	}
	if w.disconnects(b, u, height) != api.OK {
		t.Error("Disconnect of what was made again and spent")
	}
}

// Promise 16.2: values of more than 64 bits together, as an undo may have brought them: they are more than what is paid.
func TestConnectBeyond64Bits(t *testing.T) {
	const most = math.MaxUint64
	for _, values := range [][]uint64{
		{most, 1}, {most, most}, {most, 2}, {1 << 63, 1 << 63}, {1 << 63, 1<<63 - 1}, {most, most, most, 3}, {most}, {1000000}, {999999}, {1 << 63, 1 << 62, 1 << 62, 4},
	} {
		var points []api.Point
		var u api.Undo
		for i, v := range values {
			points = append(points, point(i))
			u.Spent = append(u.Spent, plain(v, 0))
		}
		hollow := api.Block{Txs: []api.Tx{spends(points)}} // it makes nothing
		for _, pays := range []uint64{0, 3, 1000000} {
			for _, based := range []uint64{0, 5004, 994996, 995001, 1000000} {
				w := risen(t, model{tip: idOf(hollow.Header), height: 1})
				if e := w.disconnects(hollow, u, 1); e != api.OK {
					t.Fatal("Disconnect of what makes nothing", e)
				}
				b := sealed(w.m.tip, 0, base(1, based), spends(points, pays))
				want := api.OK
				if values[0] < pays {
					want = api.ErrFunds
				} else if values[0]-pays < 1000000 && values[0]-pays+5000 < based {
					want = api.ErrPaid
				}
				if _, e := w.connects(b, 1); e != want {
					t.Error("Connect", values, pays, based, e, "not", want)
				}
			}
		}
	}
}

// Promise 16.2: a block of as many bytes as there may be.
func TestConnectLong(t *testing.T) {
	w := risen(t, stock(170, 20))
	var points []api.Point
	for i := range 90 {
		points = append(points, point(i))
	}
	wide := spends([]api.Point{point(100)}, make([]uint64, 430)...)
	last := spends([]api.Point{point(101)}, 1)
	last.Outs[0].Lock = strings.Repeat("l", 300)
	b, height := w.next(spends(points, 1), wide, last)
	last.Outs[0].Lock = strings.Repeat("l", 300+8192-block.Long(b))
	b, height = w.next(spends(points, 1), wide, last)
	if block.Long(b) != 8192 {
		t.Fatal("bytes", block.Long(b))
	}
	u := w.takes(b, height)
	if len(u.Spent) != 92 || w.disconnects(b, u, height) != api.OK {
		t.Error("an undo of", len(u.Spent))
	}
	last.Outs[0].Lock += "l"
	b, height = w.next(spends(points, 1), wide, last)
	w.refuses("a byte more", b, height, 0, api.ErrLong)
}

// Rules R2 and R4: beside an error nothing; what is told and what was handed in share nothing with the set.
func TestConnectMemory(t *testing.T) {
	m, b, height := spoiled()
	w := risen(t, m)
	before := w.c.Clone()
	u := w.takes(b, height)
	keep := slices.Clone(u.Spent)
	for i := range b.Txs {
		clear(b.Txs[i].Ins)
		clear(b.Txs[i].Outs)
	}
	clear(b.Txs)
	w.same()
	other, _ := before.Connect(sealed(m.tip, sceneTime, newScene().txs...), height)
	clear(u.Spent[:cap(u.Spent)])
	if !slices.Equal(other.Spent, keep) {
		t.Error("two undos share memory")
	}
	w.same()
	_, good, _ := spoiled()
	before.Disconnect(good, other, height)
	clear(other.Spent)
	if before.Bytes() != m.text() {
		t.Error("the set keeps an undo that was handed in")
	}
}
