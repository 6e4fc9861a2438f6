package locate

import (
	"math"
	"slices"
	"testing"

	"bedrock/api"
)

// The chapter's examples.
func TestExample(t *testing.T) {
	if l := Heights(3); !slices.Equal(l, []int{3, 2, 1, 0}) {
		t.Fatal(l)
	}
	if l := Heights(20); !slices.Equal(l, []int{20, 19, 18, 17, 16, 15, 14, 13, 12, 11, 9, 5, 0}) {
		t.Fatal(l)
	}
}

// Promise 15.1: heights, written out where another kind of step begins.
func TestHeightsAtEdges(t *testing.T) {
	for height, want := range map[int][]int{
		math.MinInt: nil,
		-1:          nil,
		0:           {0},
		1:           {1, 0},
		9:           {9, 8, 7, 6, 5, 4, 3, 2, 1, 0},
		10:          {10, 9, 8, 7, 6, 5, 4, 3, 2, 1, 0},
		11:          {11, 10, 9, 8, 7, 6, 5, 4, 3, 2, 0},
		12:          {12, 11, 10, 9, 8, 7, 6, 5, 4, 3, 1, 0},
		15:          {15, 14, 13, 12, 11, 10, 9, 8, 7, 6, 4, 0},
		16:          {16, 15, 14, 13, 12, 11, 10, 9, 8, 7, 5, 1, 0},
	} {
		if got := Heights(height); !slices.Equal(got, want) {
			t.Fatalf("Heights(%d): %v, not %v", height, got, want)
		}
	}
}

// Promises 15.1, 15.5: heights of all blocks that a tree may have, and of some higher ones, by the words of the chapter.
func TestHeights(t *testing.T) {
	all := []int{1<<31 - 1, 1 << 40, 1<<55 + 7}
	for height := range 20001 {
		all = append(all, height)
	}
	for _, height := range all {
		want := heightsOf(height)
		for range 2 {
			got := Heights(height)
			if !slices.Equal(got, want) {
				t.Fatalf("Heights(%d): %v, not %v", height, got, want)
			}
			if most := 12 + math.Log2(float64(max(height, 1))); float64(len(got)) > most {
				t.Fatalf("Heights(%d): %d of them, more than %v", height, len(got), most)
			}
			spoil(got)
		}
	}
}

// Promise 15.1: the greatest height that has 64 of them, and those above it, which have no more.
func TestHeightsAtMost(t *testing.T) {
	if l := Heights(1<<55 + 7); len(l) != 64 || l[62] != 1<<54 || l[63] != 0 {
		t.Fatal(len(l), l)
	}
	for _, height := range []int{1<<55 + 8, 1 << 60, math.MaxInt} {
		l := Heights(height)
		if len(l) != 64 || l[0] != height || l[62] != height-9-(1<<54-2) || l[63] != 0 {
			t.Fatal(height, len(l), l)
		}
	}
}

// Promises 15.1, 15.5: locators of all blocks of a tree with forks, and where each tip's chain finds them.
func TestMakeAndFind(t *testing.T) {
	w := forked(t)
	for _, id := range w.ids {
		want := w.locator(id)
		got, e := Make(w.x, id)
		if !slices.Equal(got, want) || e != api.OK {
			t.Fatalf("Make: %d ids, %d, not %d", len(got), e, len(want))
		}
		for _, tip := range w.ids {
			at, e := Find(w.x, tip, got...)
			if at != w.found(tip, want) || e != api.OK {
				t.Fatalf("Find: %x, %d, not %x", at, e, w.found(tip, want))
			}
			highest := -1
			for _, id := range got {
				highest = max(highest, slices.Index(w.chains[tip], id))
			}
			if at != w.chains[tip][highest] {
				t.Fatalf("Find: %x is not of the height %d", at, highest)
			}
		}
		spoil(got)
		if again, _ := Make(w.x, id); !slices.Equal(again, want) {
			t.Fatal("another locator behind an answer that was written over")
		}
	}
}

// Promise 15.1: ids that are not there, and locators that no Make made.
func TestFindOfAny(t *testing.T) {
	w := newWorld(t)
	g, nowhere := w.ids[0], api.Hash{1, 2, 3}
	a := w.grow(g, 12, 1)
	b := w.grow(a[4], 9, 2)
	tip, other := a[11], b[8]
	for _, id := range []api.Hash{nowhere, {}} {
		if l, e := Make(w.x, id); len(l) != 0 || e != api.ErrNone {
			t.Fatalf("Make: %d ids, %d", len(l), e)
		}
		for _, locator := range [][]api.Hash{nil, {g}, {tip, g}, {id}} {
			if at, e := Find(w.x, id, locator...); at != (api.Hash{}) || e != api.ErrNone {
				t.Fatalf("Find: %x, %d", at, e)
			}
		}
	}
	for i, x := range []struct {
		locator []api.Hash
		want    api.Hash
	}{
		{nil, g},
		{[]api.Hash{}, g},
		{[]api.Hash{g}, g},
		{[]api.Hash{nowhere}, g},
		{[]api.Hash{nowhere, {}, other}, g},
		{[]api.Hash{nowhere, a[7], tip}, a[7]}, // the first one, not the highest
		{[]api.Hash{other, b[0], a[4], g}, a[4]},
		{[]api.Hash{g, tip}, g},
		{[]api.Hash{tip, tip}, tip},
	} {
		if at, e := Find(w.x, tip, x.locator...); at != x.want || e != api.OK {
			t.Fatalf("Find %d: %x, %d, not %x", i, at, e, x.want)
		}
	}
	if at, e := Find(w.x, a[6], tip, a[7], a[3]); at != a[3] || e != api.OK {
		t.Fatalf("what stands on the tip is in its chain: %x, %d", at, e)
	}
}

// R4: what is handed in is neither changed nor kept, the spare room behind it too.
func TestHandedIn(t *testing.T) {
	w := newWorld(t)
	a := w.grow(w.ids[0], 15, 1)
	room := []api.Hash{{9}, a[3], a[1], {8}, {7}}
	was := slices.Clone(room)
	Find(w.x, a[14], room[:3]...)
	Headers(w.x, a[14], room[:3], a[9], 4)
	headers := []api.Header{w.headers[a[0]], w.headers[a[1]], {}, {}}
	Linked(headers[:2])
	Claims(headers[:2])
	if !slices.Equal(room, was) || !slices.Equal(headers, []api.Header{w.headers[a[0]], w.headers[a[1]], {}, {}}) {
		t.Fatal("what was handed in was changed")
	}
	if w.x.Len() != len(w.ids) || !slices.Equal(w.x.All(), w.ids) {
		t.Fatal("the tree was changed")
	}
}

// Promise 15.5: on a nil tree there is nothing, whatever else may not be.
func TestNil(t *testing.T) {
	has := func(api.Hash) bool { t.Fatal("has was asked"); return false }
	g := newWorld(t).ids[0]
	for _, id := range []api.Hash{{}, g} {
		if l, e := Make(nil, id); len(l) != 0 || e != api.ErrNone {
			t.Fatalf("Make: %d ids, %d", len(l), e)
		}
		for _, locator := range [][]api.Hash{nil, {id}} {
			if at, e := Find(nil, id, locator...); at != (api.Hash{}) || e != api.ErrNone {
				t.Fatalf("Find: %x, %d", at, e)
			}
			for _, most := range []int{-1, 0, 1} {
				if l, e := Headers(nil, id, locator, id, most); len(l) != 0 || e != api.ErrNone {
					t.Fatalf("Headers: %d, %d", len(l), e)
				}
			}
		}
		if undo, connect, e := Path(nil, id, id); len(undo) != 0 || len(connect) != 0 || e != api.ErrNone {
			t.Fatalf("Path: %d, %d, %d", len(undo), len(connect), e)
		}
		for _, most := range []int{-1, 0, 1} {
			for _, has := range []func(api.Hash) bool{nil, has} {
				if l, e := Missing(nil, id, id, most, has); len(l) != 0 || e != api.ErrNone {
					t.Fatalf("Missing: %d, %d", len(l), e)
				}
			}
		}
	}
}
