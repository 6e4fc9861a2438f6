package tree

import (
	"math"
	"testing"

	"bedrock/api"
)

// wantSkip is the skip of a height, by the chapter's words.
func wantSkip(height int) int {
	lowestGone := func(n int) int {
		for bit := 0; bit < 63; bit++ {
			if n>>bit&1 == 1 {
				return n - 1<<bit
			}
		}
		return n
	}
	if height < 2 {
		return 0
	}
	if height%2 == 0 {
		return lowestGone(height)
	}
	return lowestGone(lowestGone(height-1)) + 1
}

// Promise 14.3: the skips of the first heights, written out, of many, and of those about the ends of numbers.
func TestSkip(t *testing.T) {
	for height, want := range []int{0, 0, 0, 1, 0, 1, 4, 1, 0, 1, 8, 1, 8, 1, 12, 9, 0, 1, 16, 1, 16, 1, 20, 17, 16, 1, 24, 17, 24, 17, 28, 25, 0, 1} {
		if got := Skip(height); got != want {
			t.Fatalf("Skip(%d): %d, not %d", height, got, want)
		}
	}
	heights := []int{math.MinInt, math.MinInt + 1, math.MinInt32, -3, -2, -1}
	for height := range 70000 {
		heights = append(heights, height)
	}
	for bit := 16; bit < 63; bit++ {
		for more := -3; more <= 3; more++ {
			heights = append(heights, 1<<bit+more)
		}
	}
	for _, height := range append(heights, math.MaxInt-2, math.MaxInt-1, math.MaxInt) {
		got := Skip(height)
		if got != wantSkip(height) {
			t.Fatalf("Skip(%d): %d, not %d", height, got, wantSkip(height))
		}
		if height > 0 && (got < 0 || got >= height) {
			t.Fatalf("Skip(%d) is no height below it: %d", height, got)
		}
	}
}

// forked is a tree with forks of several depths, on the trunk and on one another.
func forked(t *testing.T) *both {
	t.Helper()
	b := newBoth(t)
	trunk := b.grow(first(), 36, 60, 1)
	for i, from := range []int{0, 6, 7, 8, 15, 30, 35} {
		branch := b.grow(trunk[from], 3+3*i%14, 59, uint32(10+i))
		b.grow(branch[1], 5, 61, uint32(20+i))
		b.grow(branch[len(branch)-1], 2, 61, uint32(30+i))
	}
	b.grow(first(), 17, 60, 40)
	b.grow(first(), 1, 60, 41)
	return b
}

// Promises 14.2, 14.3: At of each node and each height, Fork and Above of each two of them, Chain of each.
func TestAncestors(t *testing.T) {
	b := forked(t)
	b.check()
	b.checkPairs()
	b.checkNone(api.Hash{})
	b.checkNone(api.Hash{0, 0, 1})
}

// Promise 14.3: heights far from those that there are.
func TestAtBounds(t *testing.T) {
	b := newBoth(t)
	l := b.grow(first(), 9, 60, 1)
	for _, id := range append(l, first()) {
		n, _ := b.x.Get(id)
		for _, height := range []int{math.MinInt, math.MinInt32, -2, -1, n.Height + 1, n.Height + 2, 20000, math.MaxInt32, math.MaxInt} {
			if got, ok := b.x.At(id, height); got != (api.Hash{}) || ok {
				t.Fatalf("At(of height %d, %d): %x, %v", n.Height, height, got, ok)
			}
		}
		if got, ok := b.x.At(id, n.Height); got != id || !ok {
			t.Fatalf("At its own height: %x, %v", got, ok)
		}
		if got, ok := b.x.At(id, 0); got != first() || !ok {
			t.Fatalf("At 0: %x, %v", got, ok)
		}
	}
}

// Promise 14.3: what stands on a bad one, or has no body, has its ancestors, too.
func TestAncestorsOfBad(t *testing.T) {
	b := newBoth(t)
	l := b.grow(first(), 12, 60, 1)
	b.grow(l[5], 5, 60, 2)
	answers(t, b.body(l[0]), api.OK)
	answers(t, b.bad(l[3]), api.OK)
	b.check()
	b.checkPairs()
}
