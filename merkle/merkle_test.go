package merkle

import (
	"math"
	"math/rand"
	"slices"
	"testing"

	"bedrock/api"
	"bedrock/sha"
)

// parsed is ids of texts.
func parsed(t *testing.T, texts ...string) []api.Hash {
	t.Helper()
	var l []api.Hash
	for _, s := range texts {
		h, _, e := sha.Parse(s)
		if e != api.OK {
			t.Fatalf("%q: %d", s, e)
		}
		l = append(l, h)
	}
	return l
}

// Promise 6.1: a root that is published: of Bitcoin's block 100000.
func TestRootPublished(t *testing.T) {
	l := parsed(t,
		"8c14f0db3df150123e6f3dbbf30f8b955a8249b62ac1d1ff16284aefa3d06d87",
		"fff2525b8931402dd09222c50775608f75787bd2b87e56995a7bdd30f79702c4",
		"6359f0868171b1d194cbee1af2f16ea598ae8fad666d9b012c8ed2b79a236ec4",
		"e9a66845e05d5abc0ad04ec80f774a7e585c6e8db975962d069a522137b80c1d",
	)
	want := parsed(t, "f3e94742aca4b5ef85488dc37c06c3282295ffec960994b2c0d5ac2a25a95766")[0]
	if got, mutated := Root(l); got != want || mutated {
		t.Errorf("Root: %x, %v", got, mutated)
	}
}

// Promise 6.1: the root, and whether the list is mutated, of lists of 0 to 40 ids.
func TestRoot(t *testing.T) {
	for _, l := range everyList(1) {
		want, wantMutated := modelRoot(l)
		if got, mutated := Root(l); got != want || mutated != wantMutated {
			t.Fatalf("Root of %d ids %x: %x, %v, not %x, %v", len(l), l, got, mutated, want, wantMutated)
		}
	}
}

// Promise 6.1: of no ids 32 zeros, nil or empty; of one id it; of two their pair.
func TestRootOfFew(t *testing.T) {
	a, b := api.Hash{1}, api.Hash{2}
	for _, none := range [][]api.Hash{nil, {}} {
		if got, mutated := Root(none); got != (api.Hash{}) || mutated {
			t.Errorf("Root of none: %x, %v", got, mutated)
		}
	}
	for _, id := range []api.Hash{a, b, {}} {
		if got, mutated := Root([]api.Hash{id}); got != id || mutated {
			t.Errorf("Root of one: %x, %v", got, mutated)
		}
	}
	if got, mutated := Root([]api.Hash{a, b}); got != modelPair(a, b) || mutated {
		t.Errorf("Root of two: %x, %v", got, mutated)
	}
	if got, mutated := Root([]api.Hash{a, a}); got != modelPair(a, a) || !mutated {
		t.Errorf("Root of one twice: %x, %v", got, mutated)
	}
	if got, mutated := Root([]api.Hash{{}, {}}); got != modelPair(api.Hash{}, api.Hash{}) || !mutated {
		t.Errorf("Root of zeros twice: %x, %v", got, mutated)
	}
}

// Promise 6.1: one id at any two places: mutated just if they stand together.
func TestMutatedByOne(t *testing.T) {
	lots := rand.New(rand.NewSource(2))
	for n := range 21 {
		for first := range n {
			for second := first + 1; second < n; second++ {
				l := unlike(lots, n)
				l[second] = l[first]
				want := first%2 == 0 && second == first+1
				if _, mutated := Root(l); mutated != want {
					t.Fatalf("the same id at %d and %d of %d: %v", first, second, n, mutated)
				}
			}
		}
	}
}

// Promise 6.1: a whole group of ids at any two places of a level above 0: mutated just if they stand together there.
func TestMutatedAbove(t *testing.T) {
	lots := rand.New(rand.NewSource(3))
	for _, n := range []int{4, 5, 6, 7, 8, 11, 12, 15, 16, 20, 24, 31, 32, 33, 40} {
		for long := 2; 2*long <= n; long *= 2 {
			for first := range n / long {
				for second := first + 1; second < n/long; second++ {
					l := unlike(lots, n)
					copy(l[second*long:(second+1)*long], l[first*long:])
					want := first%2 == 0 && second == first+1
					if _, mutated := Root(l); mutated != want {
						t.Fatalf("the same group of %d at %d and %d of %d: %v", long, first, second, n, mutated)
					}
				}
			}
		}
	}
}

// Promise 6.1: what stands alone, and so with itself, is not the same id twice; nor is a group that lies across two.
func TestNotMutated(t *testing.T) {
	lots := rand.New(rand.NewSource(4))
	for n := range 41 {
		if _, mutated := Root(unlike(lots, n)); mutated {
			t.Errorf("%d unlike ids are mutated", n)
		}
	}
	l := unlike(lots, 8)
	copy(l[3:5], l[1:3])
	copy(l[5:7], l[1:3])
	if _, mutated := Root(l); mutated {
		t.Error("groups that lie across two are mutated")
	}
}

// Promise 6.1: the digest of the 64 bytes, in their order.
func TestPair(t *testing.T) {
	lots := rand.New(rand.NewSource(5))
	for range 300 {
		a, b := someID(lots), someID(lots)
		if got := Pair(a, b); got != modelPair(a, b) || got != sha.Twice(string(a[:])+string(b[:])) {
			t.Fatalf("Pair(%x, %x): %x", a, b, got)
		}
		if Pair(a, b) == Pair(b, a) || Pair(a, a) != modelPair(a, a) {
			t.Fatalf("Pair of %x and %x", a, b)
		}
	}
}

// Promise 6.1: all levels from level 0 on, of lists of 0 to 40 ids.
func TestLevels(t *testing.T) {
	for _, l := range everyList(6) {
		got, want := Levels(l), modelLevels(l)
		if !slices.EqualFunc(got, want, slices.Equal[[]api.Hash]) {
			t.Fatalf("Levels of %d ids %x: %x, not %x", len(l), l, got, want)
		}
		if len(l) > 0 && len(got) != Depth(len(l))+1 {
			t.Fatalf("%d levels of %d ids", len(got), len(l))
		}
	}
}

// Promise 6.1: no levels of no ids, one of one.
func TestLevelsOfFew(t *testing.T) {
	if got := Levels(nil); len(got) != 0 {
		t.Errorf("Levels of nil: %x", got)
	}
	if got := Levels([]api.Hash{}); len(got) != 0 {
		t.Errorf("Levels of none: %x", got)
	}
	if got := Levels([]api.Hash{{9}}); len(got) != 1 || !slices.Equal(got[0], []api.Hash{{9}}) {
		t.Errorf("Levels of one: %x", got)
	}
}

// Promise 6.1: how many levels there are above level 0; numbers about the powers of two, below 2, and the greatest and least there are.
func TestDepth(t *testing.T) {
	for n := 1; n < 3000; n++ {
		if got, want := Depth(n), modelDepth(n); got != want {
			t.Fatalf("Depth(%d): %d, not %d", n, got, want)
		}
	}
	for level := 1; level < 63; level++ {
		n := 1 << level
		if Depth(n) != level || Depth(n+1) != level+1 || n > 2 && Depth(n-1) != level {
			t.Errorf("Depth about 2^%d: %d, %d, %d", level, Depth(n-1), Depth(n), Depth(n+1))
		}
	}
	for n, want := range map[int]int{0: 0, 1: 0, 2: 1, 3: 2, 4: 2, -1: 0, -2: 0, -5: 0, math.MinInt: 0, math.MaxInt: 63} {
		if got := Depth(n); got != want {
			t.Errorf("Depth(%d): %d", n, got)
		}
	}
}

// Promise 6.1: there is no bound to the ids of a root; MaxLeaves is one of partial trees.
func TestRootOfMany(t *testing.T) {
	l := unlike(rand.New(rand.NewSource(7)), api.MaxLeaves+1)
	levels := Levels(l)
	root, mutated := Root(l)
	if len(levels) != 18 || levels[17][0] != root || mutated {
		t.Errorf("%d levels, %v", len(levels), mutated)
	}
	first, _ := Root(l[:api.MaxLeaves])
	last := l[api.MaxLeaves]
	for range 16 {
		last = modelPair(last, last)
	}
	if root != modelPair(first, last) {
		t.Errorf("Root: %x", root)
	}
}

// The chapter's example 1: roots and depths.
func TestExampleRoot(t *testing.T) {
	a, b, c := api.Hash{1}, api.Hash{2}, api.Hash{3}
	if got, mutated := Root([]api.Hash{a}); got != a || mutated {
		t.Errorf("Root of one: %x, %v", got, mutated)
	}
	three, no := Root([]api.Hash{a, b, c})
	four, yes := Root([]api.Hash{a, b, c, c})
	if three != four || no || !yes {
		t.Errorf("Root of three and four: %x, %v, %x, %v", three, no, four, yes)
	}
	if got := Depth(5); got != 3 {
		t.Errorf("Depth(5): %d", got)
	}
}
