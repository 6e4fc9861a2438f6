package tree

import (
	"math"
	"slices"
	"testing"

	"bedrock/api"
	"bedrock/block"
)

// The chapter's example.
func TestExample(t *testing.T) {
	for height, want := range map[int]int{1: 0, 2: 0, 6: 4, 7: 1, 8: 0, 11: 1, 12: 8} {
		if got := Skip(height); got != want {
			t.Fatalf("Skip(%d): %d, not %d", height, got, want)
		}
	}
	x, h := New(), block.Genesis().Header
	if is, e := x.Add(h, 0); is || e != api.OK {
		t.Fatalf("Add of genesis: %v, %d", is, e)
	}
	if bits, time := x.NextBits(first()), x.Median(first()); bits != api.LimitBits || time != api.GenesisTime {
		t.Fatalf("NextBits %x, Median %d", bits, time)
	}
	if l, e := x.Body(first()); len(l) != 0 || e != api.ErrArg {
		t.Fatalf("Body of genesis: %d ids, %d", len(l), e)
	}
}

// Promise 14.1: a new tree has genesis alone, and what is done to one is done to no other.
func TestNew(t *testing.T) {
	b := newBoth(t)
	want := api.Node{ID: first(), Header: block.Genesis().Header, Work: api.Wide{2}, Body: true, Whole: true, Turn: 1}
	if got, ok := b.x.Get(first()); got != want || !ok {
		t.Fatalf("Get of genesis: %+v, %v", got, ok)
	}
	if b.x.Best() != first() || b.x.BestHeader() != first() {
		t.Fatal("genesis is not the best one of a new tree")
	}
	b.check()
	b.checkPairs()
	b.checkNone(api.Hash{})
	b.checkNone(api.Hash{1})
	b.grow(first(), 3, 60, 1)
	newBoth(t).check()
}

// Promises 14.1, 14.2: a tree with forks, which is looked at behind each header.
func TestAdd(t *testing.T) {
	b := newBoth(t)
	trunk := b.grow(first(), 20, 60, 1)
	b.check()
	for i, from := range []int{19, 0, 7, 7, 8, 15, 6, 12} {
		on := trunk[from]
		for range 4 + i%3 {
			on = b.grow(on, 1, 50+i, uint32(i+2))[0]
			b.check()
		}
	}
	b.grow(first(), 2, 10, 90)
	b.check()
	b.checkNone(api.Hash{})
	b.checkNone(api.Hash{1, 2, 3})
}

// Promise 14.2: the nodes and the lists of a small tree, written out.
func TestLists(t *testing.T) {
	b := newBoth(t)
	g := first()
	a := b.grow(g, 1, 60, 1)[0]
	c := b.grow(g, 1, 60, 2)[0]
	d := b.grow(a, 1, 60, 3)[0]
	e := b.grow(c, 1, 60, 4)[0]
	f := b.grow(a, 1, 60, 5)[0]
	same := func(what string, got []api.Hash, want ...api.Hash) {
		t.Helper()
		if !slices.Equal(got, want) {
			t.Fatalf("%s: %x, not %x", what, got, want)
		}
		spoil(got)
	}
	for range 2 { // once more behind all answers were written over
		same("All", b.x.All(), g, a, c, d, e, f)
		same("Tips", b.x.Tips(), d, e, f)
		same("Kids", b.x.Kids(g), a, c)
		same("Kids", b.x.Kids(a), d, f)
		same("Kids", b.x.Kids(c), e)
		same("Kids", b.x.Kids(f))
		same("Chain", b.x.Chain(g), g)
		same("Chain", b.x.Chain(f), g, a, f)
		same("Chain", b.x.Chain(e), g, c, e)
		same("Chain", b.x.Chain(api.Hash{}))
		same("Kids", b.x.Kids(api.Hash{}))
	}
	n, ok := b.x.Get(f)
	if n.ID != f || n.Height != 2 || n.Order != 5 || n.Work != (api.Wide{6}) || n.Body || n.Whole || n.Bad || n.Turn != 0 || !ok {
		t.Fatalf("Get: %+v, %v", n, ok)
	}
	if n.Header.Prev != a || n.Header.Version != 5 || n.Header.Time != api.GenesisTime+120 {
		t.Fatalf("Get: %+v", n.Header)
	}
	if b.x.Len() != 6 {
		t.Fatalf("Len: %d", b.x.Len())
	}
}

// Promise 14.1: what is there already is told as that, whatever else would be wrong with it, and stays as it is.
func TestAddAgain(t *testing.T) {
	b := newBoth(t)
	l := b.grow(first(), 12, 60, 1)
	side := b.grow(l[3], 3, 60, 2)
	answers(t, b.body(l[0]), api.OK)
	answers(t, b.body(l[1]), api.OK)
	answers(t, b.bad(l[5]), api.OK)
	for range 2 {
		for _, id := range append(append(l, side...), first()) {
			n, _ := b.x.Get(id)
			for _, now := range []uint32{0, n.Header.Time - 7201, n.Header.Time, late} {
				answers(t, b.add(n.Header, now), api.OK)
			}
		}
		b.check()
	}
}

// Promise 14.1: each field of a header counts, as its id does.
func TestAddFields(t *testing.T) {
	b := newBoth(t)
	base := api.Header{Version: 0x01020304, Prev: first(), Root: api.Hash{5}, Time: api.GenesisTime + 60, Bits: api.LimitBits}
	for i := range 8 {
		h := base
		h.Version += uint32(i&1) << 24
		h.Root[31] += byte(i & 2)
		h.Time += uint32(i & 4)
		h = mined(h, true)
		answers(t, b.add(h, late), api.OK)
		h.Nonce++
		answers(t, b.add(mined(h, true), late), api.OK)
	}
	if b.x.Len() != 17 {
		t.Fatalf("Len: %d", b.x.Len())
	}
	b.check()
}

// Promise 14.6: a copy is the same, and then goes its own way.
func TestClone(t *testing.T) {
	b := newBoth(t)
	l := b.grow(first(), 10, 60, 1)
	side := b.grow(l[4], 4, 60, 2)
	for _, id := range append(l[:3:3], l[6], side[0]) {
		answers(t, b.body(id), api.OK)
	}
	answers(t, b.bad(side[2]), api.OK)
	c := b.clone()
	c.check()
	c.checkPairs()

	c.grow(l[9], 9, 60, 3)
	answers(t, c.body(l[3]), api.OK)
	answers(t, c.body(l[4]), api.OK)
	answers(t, c.bad(l[8]), api.OK)
	b.check()
	b.checkPairs()
	c.check()
	c.checkPairs()

	b.grow(l[9], 2, 30, 4)
	b.grow(first(), 1, 30, 5)
	answers(t, b.bad(l[0]), api.OK)
	answers(t, b.body(l[4]), api.OK)
	b.check()
	c.check()
	again := c.clone()
	again.grow(first(), 3, 60, 6)
	again.check()
	c.check()
}

// Promise 14.6: a node that one tree has and its copy has not.
func TestCloneNodes(t *testing.T) {
	b := newBoth(t)
	for range 40 { // lists grow into spare room that a copy may not share
		c := b.clone()
		mine := b.grow(first(), 1, 60, uint32(b.x.Len()))[0]
		yours := c.grow(first(), 1, 61, uint32(b.x.Len()))[0]
		b.checkNone(yours)
		c.checkNone(mine)
	}
	b.check()
}

// Promise 14.6: each call of a nil tree.
func TestNil(t *testing.T) {
	var x *Tree
	g := block.Genesis().Header
	for _, h := range []api.Header{{}, g, mined(api.Header{Prev: first(), Time: late, Bits: api.LimitBits}, true)} {
		if is, e := x.Add(h, 0); is || e != api.ErrArg {
			t.Fatalf("Add: %v, %d", is, e)
		}
	}
	for _, id := range []api.Hash{{}, first(), {1}} {
		if l, e := x.Body(id); len(l) != 0 || e != api.ErrArg {
			t.Fatalf("Body: %d ids, %d", len(l), e)
		}
		if l, e := x.Bad(id); len(l) != 0 || e != api.ErrArg {
			t.Fatalf("Bad: %d ids, %d", len(l), e)
		}
		if n, ok := x.Get(id); n != (api.Node{}) || ok {
			t.Fatalf("Get: %+v, %v", n, ok)
		}
		for _, height := range []int{math.MinInt, -1, 0, 1, math.MaxInt} {
			if got, ok := x.At(id, height); got != (api.Hash{}) || ok {
				t.Fatalf("At: %x, %v", got, ok)
			}
		}
		if got, ok := x.Fork(id, id); got != (api.Hash{}) || ok {
			t.Fatalf("Fork: %x, %v", got, ok)
		}
		if x.Above(id, id) || x.Better(id, first()) || x.NextBits(id) != 0 || x.Median(id) != 0 {
			t.Fatal("Above, Better, NextBits or Median")
		}
		if len(x.Kids(id)) != 0 || len(x.Chain(id)) != 0 {
			t.Fatal("Kids or Chain")
		}
	}
	if x.Best() != (api.Hash{}) || x.BestHeader() != (api.Hash{}) || x.Len() != 0 || len(x.All()) != 0 || len(x.Tips()) != 0 || x.Clone() != nil {
		t.Fatal("Best, BestHeader, Len, All, Tips or Clone")
	}
}
