package tree

import (
	"slices"
	"testing"

	"bedrock/api"
)

// small is a tree in which the order of Turns is neither that of a walk down nor Order: a on genesis, c and d on a, then e on d and f on c, g on e, and h beside a.
func small(t *testing.T) (b *both, ids []api.Hash) {
	t.Helper()
	b = newBoth(t)
	a := b.grow(first(), 1, 60, 1)[0]
	c := b.grow(a, 1, 60, 2)[0]
	d := b.grow(a, 1, 60, 3)[0]
	e := b.grow(d, 1, 60, 4)[0]
	f := b.grow(c, 1, 60, 5)[0]
	g := b.grow(e, 1, 60, 6)[0]
	h := b.grow(first(), 1, 60, 7)[0]
	return b, []api.Hash{a, c, d, e, f, g, h}
}

// orders calls do with each order of the numbers below n.
func orders(n int, do func(order []int)) {
	order := make([]int, n)
	for i := range order {
		order[i] = i
	}
	var place func(at int)
	place = func(at int) {
		if at == n {
			do(order)
			return
		}
		for i := at; i < n; i++ {
			order[at], order[i] = order[i], order[at]
			place(at + 1)
			order[at], order[i] = order[i], order[at]
		}
	}
	place(0)
}

// Promises 14.4, 14.5: bodies that come in each order there is: what becomes whole by each, and the Turns; all is told twice.
func TestBodyOrders(t *testing.T) {
	base, ids := small(t)
	orders(len(ids), func(order []int) {
		b := base.clone()
		for _, i := range order {
			answers(t, b.body(ids[i]), api.OK)
			answers(t, b.body(ids[i]), api.ErrArg)
		}
		b.check()
	})
}

// Promises 14.4, 14.5: the tree is looked at behind each body, some of them never come.
func TestBodySome(t *testing.T) {
	base, ids := small(t)
	for _, order := range [][]int{{0, 1, 2, 3, 4, 5, 6}, {6, 5, 4, 3, 2, 1, 0}, {5, 3, 0, 2, 1}, {1, 2, 3, 4, 5, 6}, {6, 4, 1}, {3, 4, 6, 0, 5, 2}} {
		b := base.clone()
		for _, i := range order {
			answers(t, b.body(ids[i]), api.OK)
			b.check()
			b.checkPairs()
		}
		answers(t, b.body(first()), api.ErrArg)
		b.checkNone(api.Hash{1})
		b.check()
	}
}

// Promise 14.4: what becomes whole is told one behind the other: on the first one ahead of those on the second one.
func TestBodyWrittenOut(t *testing.T) {
	b, l := small(t)
	a, c, d, e, f, g := l[0], l[1], l[2], l[3], l[4], l[5]
	for _, id := range []api.Hash{g, f, e, d, c} {
		if became, err := b.x.Body(id); len(became) != 0 || err != api.OK {
			t.Fatalf("Body: %d ids, %d", len(became), err)
		}
	}
	if n, _ := b.x.Get(g); !n.Body || n.Whole || n.Turn != 0 || b.x.Best() != first() {
		t.Fatalf("Get: %+v", n)
	}
	if became, err := b.x.Body(a); !slices.Equal(became, []api.Hash{a, c, d, f, e, g}) || err != api.OK {
		t.Fatalf("Body: %x, %d", became, err)
	}
	for i, id := range []api.Hash{first(), a, c, d, f, e, g} {
		if n, _ := b.x.Get(id); !n.Whole || n.Turn != i+1 {
			t.Fatalf("Get: %+v", n)
		}
	}
	if b.x.Best() != g {
		t.Fatal("Best is another one")
	}
	if became, err := b.x.Body(l[6]); !slices.Equal(became, []api.Hash{l[6]}) || err != api.OK {
		t.Fatalf("Body: %x, %d", became, err)
	}
	if n, _ := b.x.Get(l[6]); n.Turn != 8 {
		t.Fatalf("Get: %+v", n)
	}
}

// Promise 14.4: a body that is missing in the midst stops what becomes whole there.
func TestBodyMissing(t *testing.T) {
	b := newBoth(t)
	l := b.grow(first(), 9, 60, 1)
	for _, i := range []int{1, 2, 4, 5, 7} {
		answers(t, b.body(l[i]), api.OK)
	}
	answers(t, b.body(l[0]), api.OK)
	b.check()
	if b.x.Best() != l[2] {
		t.Fatal("Best is another one")
	}
	answers(t, b.body(l[6]), api.OK)
	b.check()
	answers(t, b.body(l[3]), api.OK)
	b.check()
	if b.x.Best() != l[7] || b.x.BestHeader() != l[8] {
		t.Fatal("Best or BestHeader is another one")
	}
}

// Promise 14.5: what becomes bad is told by Order, and once; genesis may not be bad.
func TestBadWrittenOut(t *testing.T) {
	base, l := small(t)
	a, c, d, e, f, g, h := l[0], l[1], l[2], l[3], l[4], l[5], l[6]
	for _, x := range []struct {
		told []api.Hash
		want [][]api.Hash
	}{
		{[]api.Hash{a, a, c, g}, [][]api.Hash{{a, c, d, e, f, g}, nil, nil, nil}},
		{[]api.Hash{d, a, h}, [][]api.Hash{{d, e, g}, {a, c, f}, {h}}},
		{[]api.Hash{g, e, d, c, a}, [][]api.Hash{{g}, {e}, {d}, {c, f}, {a}}},
		{[]api.Hash{c, g, a}, [][]api.Hash{{c, f}, {g}, {a, d, e}}},
	} {
		b := base.clone()
		for i, id := range x.told {
			if became, err := b.x.Bad(id); !slices.Equal(became, x.want[i]) || err != api.OK {
				t.Fatalf("Bad: %x, %d, not %x", became, err, x.want[i])
			}
			if became, err := b.x.Bad(first()); len(became) != 0 || err != api.ErrArg {
				t.Fatalf("Bad of genesis: %x, %d", became, err)
			}
			if became, err := b.x.Bad(api.Hash{9}); len(became) != 0 || err != api.ErrNone {
				t.Fatalf("Bad of nothing: %x, %d", became, err)
			}
		}
	}
}

// Promise 14.5: bad ones in each order there is; all is told twice.
func TestBadOrders(t *testing.T) {
	base, ids := small(t)
	for _, i := range []int{0, 1, 2, 5, 6} {
		answers(t, base.body(ids[i]), api.OK)
	}
	orders(len(ids), func(order []int) {
		b := base.clone()
		for _, i := range order {
			answers(t, b.bad(ids[i]), api.OK)
			answers(t, b.bad(ids[i]), api.OK)
		}
		b.check()
	})
	for _, order := range [][]int{{0, 6}, {5, 3, 2, 1, 0}, {6, 4, 2}, {1, 3, 0}} {
		b := base.clone()
		for _, i := range order {
			answers(t, b.bad(ids[i]), api.OK)
			b.check()
			b.checkPairs()
		}
	}
}

// Promises 14.1, 14.4, 14.5: a header that comes behind Bad is refused, a body is taken, and becomes whole, but never the best.
func TestBehindBad(t *testing.T) {
	b := newBoth(t)
	l := b.grow(first(), 5, 60, 1)
	side := b.grow(l[0], 1, 60, 2)
	answers(t, b.body(l[0]), api.OK)
	answers(t, b.body(l[2]), api.OK)
	answers(t, b.bad(l[2]), api.OK)
	for _, id := range l[2:] {
		answers(t, b.add(b.on(id, 60, 9), late), api.ErrBad)
	}
	answers(t, b.body(l[3]), api.OK)
	answers(t, b.body(l[1]), api.OK)
	b.check()
	b.checkPairs()
	if n, _ := b.x.Get(l[3]); !n.Whole || !n.Bad || n.Turn != 5 || b.x.Best() != l[1] {
		t.Fatalf("Get: %+v", n)
	}
	if b.x.BestHeader() != l[1] {
		t.Fatal("BestHeader is another one")
	}
	on := b.grow(l[1], 2, 60, 3)
	answers(t, b.bad(l[0]), api.OK)
	for _, id := range append(append(on, side...), l...) {
		answers(t, b.add(b.on(id, 60, 9), late), api.ErrBad)
	}
	b.check()
	if b.x.Best() != first() || b.x.BestHeader() != first() {
		t.Fatal("Best or BestHeader is another one")
	}
	other := b.grow(first(), 1, 60, 4)[0]
	if b.x.Best() != first() || b.x.BestHeader() != other {
		t.Fatal("Best or BestHeader is another one")
	}
	answers(t, b.body(other), api.OK)
	b.check()
	b.checkPairs()
}

// Promise 14.5: of several with the same work the one that was whole first, and the one whose header came first.
func TestSameWork(t *testing.T) {
	b := newBoth(t)
	var l []api.Hash
	for i := range 4 {
		l = append(l, b.grow(first(), 1, 60, uint32(i))[0])
	}
	turns := []int{2, 0, 3, 1}
	for _, i := range turns {
		answers(t, b.body(l[i]), api.OK)
		b.check()
		b.checkPairs()
		if b.x.Best() != l[2] || b.x.BestHeader() != l[0] {
			t.Fatal("Best or BestHeader is another one")
		}
	}
	for i, x := range turns {
		for j, y := range turns {
			if b.x.Better(l[x], l[y]) != (i < j) {
				t.Fatalf("Better of the turns %d, %d: %v", i+2, j+2, i >= j)
			}
		}
	}
	for i, x := range turns[:3] { // the next one by Turn, or by Order, comes to be the best
		answers(t, b.bad(l[x]), api.OK)
		b.check()
		b.checkPairs()
		if b.x.Best() != l[turns[i+1]] {
			t.Fatal("Best is another one")
		}
	}
	if b.x.BestHeader() != l[1] {
		t.Fatal("BestHeader is another one")
	}
}

// Promise 14.5: work counts, not height: two chains of unlike heights with the same work, and one more on each.
func TestWorkNotHeight(t *testing.T) {
	b := newBoth(t)
	hard := b.grow(first(), 7, 10, 1)
	hard = append(hard, b.grow(hard[6], 1, 10, 1)...) // four times as hard
	easy := b.grow(first(), 11, 300, 2)
	x, _ := b.x.Get(hard[7])
	y, _ := b.x.Get(easy[10])
	if x.Work != (api.Wide{24}) || y.Work != x.Work {
		t.Fatalf("works %d, %d", x.Work, y.Work)
	}
	if b.x.BestHeader() != hard[7] {
		t.Fatal("BestHeader is another one")
	}
	for _, id := range append(easy, hard...) {
		answers(t, b.body(id), api.OK)
		b.check()
	}
	if b.x.Best() != easy[10] || !b.x.Better(easy[10], hard[7]) || b.x.Better(hard[7], easy[10]) {
		t.Fatal("Best is another one")
	}
	b.checkPairs()
	more := b.grow(easy[10], 3, 300, 2)
	if b.x.BestHeader() != more[2] || b.x.Best() != easy[10] {
		t.Fatal("Best or BestHeader is another one")
	}
	most := b.grow(hard[7], 1, 10, 1)[0]
	answers(t, b.body(most), api.OK)
	for _, id := range more {
		answers(t, b.body(id), api.OK)
		b.check()
	}
	if b.x.BestHeader() != most || b.x.Best() != most { // 32 against 30
		t.Fatal("Best or BestHeader is another one")
	}
	b.checkPairs()
}

// Promise 14.5: what is not whole, is bad or is not there is better than none, and none is better than it.
func TestBetterThanNone(t *testing.T) {
	b := newBoth(t)
	l := b.grow(first(), 4, 60, 1)
	side := b.grow(first(), 1, 60, 2)
	for _, id := range append(l[:3:3], side...) {
		answers(t, b.body(id), api.OK)
	}
	answers(t, b.bad(l[2]), api.OK)
	for _, x := range []struct {
		a, b api.Hash
		want bool
	}{
		{l[1], l[0], true}, {l[0], l[1], false}, {l[1], l[1], false}, {l[1], first(), true}, {first(), l[1], false},
		{l[2], l[1], false}, {l[1], l[2], false}, {l[3], l[0], false}, {l[0], l[3], false}, {l[3], l[2], false},
		{l[0], side[0], true}, {side[0], l[0], false}, {l[0], api.Hash{}, false}, {api.Hash{}, l[0], false}, {api.Hash{}, api.Hash{}, false},
	} {
		if got := b.x.Better(x.a, x.b); got != x.want {
			t.Fatalf("Better(%x, %x): %v", x.a, x.b, got)
		}
	}
	b.checkPairs()
}
