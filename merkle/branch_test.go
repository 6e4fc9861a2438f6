package merkle

import (
	"fmt"
	"math"
	"math/rand"
	"testing"

	"bedrock/api"
)

// modelBranch is the branch of a place: at each level but the last the other one of the two.
func modelBranch(l []api.Hash, place int) []api.Hash {
	var branch []api.Hash
	levels := modelLevels(l)
	for level, ids := range levels[:len(levels)-1] {
		at := place >> level
		other := at + 1 - 2*(at%2)
		if other == len(ids) {
			other = at
		}
		branch = append(branch, ids[other])
	}
	return branch
}

// Promises 6.2 and 6.5: the branch of every place of lists of 0 to 40 ids, and that one comes by it to the root.
func TestBranch(t *testing.T) {
	for _, l := range everyList(10) {
		root, _ := modelRoot(l)
		for place, id := range l {
			branch, e := Branch(l, place)
			if e != api.OK || len(branch) != Depth(len(l)) {
				t.Fatalf("Branch of %d of %d: %x, %d", place, len(l), branch, e)
			}
			wantIDs(t, fmt.Sprintf("Branch of %d of %d", place, len(l)), branch, modelBranch(l, place))
			if got, e := Check(id, place, branch); got != root || e != api.OK {
				t.Fatalf("Check of Branch of %d of %d: %x, %d", place, len(l), got, e)
			}
		}
	}
}

// Promise 6.2: places that are not there, of lists of each length.
func TestBranchPlaces(t *testing.T) {
	lots := rand.New(rand.NewSource(11))
	for n := range 41 {
		l := unlike(lots, n)
		for _, place := range []int{-1, -2, -n, -n - 1, n, n + 1, 2*n + 1, 64, 1 << 32, math.MinInt, math.MaxInt} {
			if place == 0 {
				continue
			}
			if branch, e := Branch(l, place); len(branch) != 0 || e != api.ErrPlace {
				t.Fatalf("Branch of %d of %d: %x, %d", place, n, branch, e)
			}
		}
	}
	for _, none := range [][]api.Hash{nil, {}} {
		if branch, e := Branch(none, 0); len(branch) != 0 || e != api.ErrPlace {
			t.Errorf("Branch of none: %x, %d", branch, e)
		}
	}
}

// Promise 6.2: the branch of the only id is empty; one that stands alone stands with itself.
func TestBranchAlone(t *testing.T) {
	a, b, c := api.Hash{1}, api.Hash{2}, api.Hash{3}
	if branch, e := Branch([]api.Hash{a}, 0); len(branch) != 0 || e != api.OK {
		t.Errorf("Branch of one: %x, %d", branch, e)
	}
	for place, want := range [][]api.Hash{{b, modelPair(c, c)}, {a, modelPair(c, c)}, {c, modelPair(a, b)}} {
		branch, e := Branch([]api.Hash{a, b, c}, place)
		if e != api.OK {
			t.Errorf("Branch of %d of three: %d", place, e)
		}
		wantIDs(t, fmt.Sprintf("Branch of %d of three", place), branch, want)
	}
}

// modelCheck is the id to which one comes, the place's bits read from the lowest on.
func modelCheck(id api.Hash, place int, branch []api.Hash) api.Hash {
	for level, other := range branch {
		if place&(1<<level) == 0 {
			id = modelPair(id, other)
			continue
		}
		id = modelPair(other, id)
	}
	return id
}

// Promise 6.2: branches of 0 to 32 ids, with places up to their bound, at it and beyond.
func TestCheck(t *testing.T) {
	lots := rand.New(rand.NewSource(12))
	for n := range 33 {
		id, branch := someID(lots), unlike(lots, n)
		end := 1 << n
		for _, place := range []int{0, end / 2, end - 1, lots.Intn(end), lots.Intn(end)} {
			if got, e := Check(id, place, branch); got != modelCheck(id, place, branch) || e != api.OK {
				t.Fatalf("Check at %d by %d: %x, %d", place, n, got, e)
			}
		}
		for _, place := range []int{end, end + 1, 2 * end, 1 << 33, 1 << 62, math.MaxInt, -1, -end, math.MinInt} {
			if got, e := Check(id, place, branch); got != (api.Hash{}) || e != api.ErrPlace {
				t.Fatalf("Check at %d by %d: %x, %d", place, n, got, e)
			}
		}
	}
}

// Promise 6.2: by a branch of no ids one stays at the id.
func TestCheckByNone(t *testing.T) {
	id := api.Hash{5}
	for _, none := range [][]api.Hash{nil, {}} {
		if got, e := Check(id, 0, none); got != id || e != api.OK {
			t.Errorf("Check by none: %x, %d", got, e)
		}
		if got, e := Check(id, 1, none); got != (api.Hash{}) || e != api.ErrPlace {
			t.Errorf("Check at 1 by none: %x, %d", got, e)
		}
	}
}

// Promise 6.2: more than 32 ids are too many, and that is told ahead of a place that may not be.
func TestCheckMany(t *testing.T) {
	lots := rand.New(rand.NewSource(13))
	for _, n := range []int{33, 34, 63, 64, 65, 1000} {
		branch := unlike(lots, n)
		for _, place := range []int{0, 1, 1<<32 - 1, 1 << 32, 1 << 33, -1, math.MinInt, math.MaxInt} {
			if got, e := Check(api.Hash{1}, place, branch); got != (api.Hash{}) || e != api.ErrMany {
				t.Fatalf("Check at %d by %d: %x, %d", place, n, got, e)
			}
		}
	}
}

// Promise 6.2: another id, another place or a changed branch comes to another root.
func TestCheckOfOthers(t *testing.T) {
	lots := rand.New(rand.NewSource(14))
	for n := 2; n <= 40; n++ {
		l := unlike(lots, n)
		root, _ := Root(l)
		place := lots.Intn(n)
		branch, _ := Branch(l, place)
		if got, _ := Check(someID(lots), place, branch); got == root {
			t.Fatalf("another id at %d of %d", place, n)
		}
		if place != n-1 {
			if got, _ := Check(l[place], place^1, branch); got == root {
				t.Fatalf("another place than %d of %d", place, n)
			}
		}
		branch[lots.Intn(len(branch))][lots.Intn(32)] ^= 1
		if got, _ := Check(l[place], place, branch); got == root {
			t.Fatalf("another branch of %d of %d", place, n)
		}
	}
}

// Promises 6.2 and 6.5: places of a list of more than MaxLeaves ids.
func TestBranchOfMany(t *testing.T) {
	l := unlike(rand.New(rand.NewSource(15)), api.MaxLeaves+1)
	root, _ := Root(l)
	for _, place := range []int{0, 40000, api.MaxLeaves} {
		branch, e := Branch(l, place)
		if e != api.OK || len(branch) != 17 {
			t.Fatalf("Branch of %d: %d ids, %d", place, len(branch), e)
		}
		if got, e := Check(l[place], place, branch); got != root || e != api.OK {
			t.Errorf("Check at %d: %x, %d", place, got, e)
		}
	}
}
