package locate

import (
	"math"
	"slices"
	"testing"

	"bedrock/api"
)

// Promises 15.4, 15.5: from each block of a tree with forks to each one, by walking.
func TestPath(t *testing.T) {
	w := forked(t)
	for _, from := range w.ids {
		for _, to := range w.ids {
			up, down := w.chains[from], w.chains[to]
			n := same(up, down)
			wantUndo, wantConnect := slices.Clone(up[n:]), down[n:]
			slices.Reverse(wantUndo)
			undo, connect, e := Path(w.x, from, to)
			if !slices.Equal(undo, wantUndo) || !slices.Equal(connect, wantConnect) || e != api.OK {
				t.Fatalf("Path: %d, %d, %d, not %d, %d", len(undo), len(connect), e, len(wantUndo), len(wantConnect))
			}
			walked := slices.Clone(up)
			for _, id := range undo {
				if walked[len(walked)-1] != id {
					t.Fatal("one is undone that is not the last")
				}
				walked = walked[:len(walked)-1]
			}
			for _, id := range connect {
				if w.headers[id].Prev != walked[len(walked)-1] {
					t.Fatal("one is connected that does not stand on the last")
				}
				walked = append(walked, id)
			}
			if !slices.Equal(walked, down) {
				t.Fatal("the path leads elsewhere")
			}
			spoil(undo)
			if !slices.Equal(connect, wantConnect) {
				t.Fatal("two lists of one answer share memory")
			}
			spoil(connect)
		}
	}
	if !slices.Equal(w.x.All(), w.ids) {
		t.Fatal("the tree was changed")
	}
}

// Promise 15.4: paths of a small tree, written out.
func TestPathOfFew(t *testing.T) {
	w := newWorld(t)
	g := w.ids[0]
	a := w.grow(g, 3, 1)
	b := w.grow(a[0], 2, 2)
	for i, x := range []struct {
		from, to      api.Hash
		undo, connect []api.Hash
	}{
		{g, g, nil, nil},
		{a[2], a[2], nil, nil},
		{g, a[2], nil, a},
		{a[2], g, []api.Hash{a[2], a[1], a[0]}, nil},
		{a[2], b[1], []api.Hash{a[2], a[1]}, b},
		{b[1], a[2], []api.Hash{b[1], b[0]}, []api.Hash{a[1], a[2]}},
		{a[1], b[0], []api.Hash{a[1]}, []api.Hash{b[0]}},
		{a[0], b[1], nil, b},
	} {
		undo, connect, e := Path(w.x, x.from, x.to)
		if !slices.Equal(undo, x.undo) || !slices.Equal(connect, x.connect) || e != api.OK {
			t.Fatalf("Path %d: %x, %x, %d", i, undo, connect, e)
		}
	}
}

// asked is a has that keeps what it was asked for.
type asked struct {
	ids     []api.Hash
	answers func(turn int) bool
}

func (a *asked) has(id api.Hash) bool {
	a.ids = append(a.ids, id)
	return a.answers(len(a.ids) - 1)
}

// Promise 15.4: what is missing, and which has is asked of, once each and no more than need be.
func TestMissing(t *testing.T) {
	w := forked(t)
	kinds := []func(turn int) bool{
		func(int) bool { return true },
		func(int) bool { return false },
		func(turn int) bool { return turn%2 == 0 },
		func(turn int) bool { return turn%3 != 1 },
	}
	for i, from := range w.ids {
		for j, to := range w.ids {
			connect := w.chains[to][same(w.chains[from], w.chains[to]):]
			answers := kinds[(i+j)%len(kinds)]
			for _, most := range []int{0, 1, 2, len(connect), len(connect) + 1, math.MaxInt} {
				var want, wantAsked []api.Hash
				for turn, id := range connect {
					if len(want) == most {
						break
					}
					wantAsked = append(wantAsked, id)
					if !answers(turn) {
						want = append(want, id)
					}
				}
				a := asked{answers: answers}
				got, e := Missing(w.x, from, to, most, a.has)
				if !slices.Equal(got, want) || e != api.OK {
					t.Fatalf("Missing, at most %d: %d, %d, not %d", most, len(got), e, len(want))
				}
				if !slices.Equal(a.ids, wantAsked) {
					t.Fatalf("Missing, at most %d: has was asked of %d, not %d", most, len(a.ids), len(wantAsked))
				}
				spoil(got)
			}
		}
	}
}

// Promise 15.4: what is missing of a small tree, written out.
func TestMissingOfFew(t *testing.T) {
	w := newWorld(t)
	g := w.ids[0]
	a := w.grow(g, 4, 1)
	b := w.grow(a[0], 3, 2)
	for i, x := range []struct {
		from, to api.Hash
		most     int
		there    []api.Hash
		want     []api.Hash
		asked    []api.Hash
	}{
		{g, a[3], 9, nil, a, a},
		{g, a[3], 4, nil, a, a},
		{g, a[3], 2, nil, a[:2], a[:2]},
		{g, a[3], 0, nil, nil, nil},
		{g, a[3], 9, a, nil, a},
		{g, a[3], 1, a[:2], a[2:3], a[:3]},
		{g, a[3], 2, []api.Hash{a[1]}, []api.Hash{a[0], a[2]}, a[:3]},
		{a[3], b[2], 9, []api.Hash{b[1]}, []api.Hash{b[0], b[2]}, b},
		{a[3], b[2], 1, nil, b[:1], b[:1]},
		{a[3], a[1], 9, nil, nil, nil},
		{a[2], a[2], 9, nil, nil, nil},
	} {
		a := asked{}
		a.answers = func(turn int) bool { return slices.Contains(x.there, a.ids[turn]) }
		got, e := Missing(w.x, x.from, x.to, x.most, a.has)
		if !slices.Equal(got, x.want) || !slices.Equal(a.ids, x.asked) || e != api.OK {
			t.Fatalf("Missing %d: %x, asked of %x, %d", i, got, a.ids, e)
		}
	}
}

// Promise 15.4: what may not be; an id that is not there comes first, and has is asked of nothing.
func TestPathRefused(t *testing.T) {
	w := newWorld(t)
	a := w.grow(w.ids[0], 3, 1)
	has := func(api.Hash) bool { t.Fatal("has was asked"); return false }
	for _, from := range []api.Hash{a[0], {7}, {}} {
		for _, to := range []api.Hash{a[2], {8}, {}} {
			if from == a[0] && to == a[2] {
				continue
			}
			if undo, connect, e := Path(w.x, from, to); len(undo) != 0 || len(connect) != 0 || e != api.ErrNone {
				t.Fatalf("Path: %d, %d, %d", len(undo), len(connect), e)
			}
			for _, most := range []int{-1, 0, 5} {
				for _, has := range []func(api.Hash) bool{nil, has} {
					if l, e := Missing(w.x, from, to, most, has); len(l) != 0 || e != api.ErrNone {
						t.Fatalf("Missing: %d, %d", len(l), e)
					}
				}
			}
		}
	}
	for _, x := range []struct {
		most int
		has  func(api.Hash) bool
	}{{-1, has}, {math.MinInt, has}, {-1, nil}, {0, nil}, {5, nil}} {
		if l, e := Missing(w.x, a[0], a[2], x.most, x.has); len(l) != 0 || e != api.ErrArg {
			t.Fatalf("Missing: %d, %d", len(l), e)
		}
	}
	if l, e := Missing(w.x, a[0], a[2], 0, has); len(l) != 0 || e != api.OK {
		t.Fatalf("Missing: %d, %d", len(l), e)
	}
}

// R1: no call panics, whatever the function does that is handed in.
func TestMissingOfPanic(t *testing.T) {
	w := newWorld(t)
	a := w.grow(w.ids[0], 5, 1)
	for _, at := range []api.Hash{a[0], a[3], a[4]} {
		l, e := Missing(w.x, w.ids[0], a[4], 9, func(id api.Hash) bool {
			if id == at {
				panic("no answer")
			}
			return false
		})
		if len(l) != 0 || e != api.ErrArg {
			t.Fatalf("%d, %d", len(l), e)
		}
	}
	l, e := Missing(w.x, w.ids[0], a[4], 9, func(id api.Hash) bool {
		w.grow(id, 2, 50)
		return id == a[1]
	})
	if !slices.Equal(l, []api.Hash{a[0], a[2], a[3], a[4]}) || e != api.OK {
		t.Fatalf("a tree that grows while has is asked: %d, %d", len(l), e)
	}
}
