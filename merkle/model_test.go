package merkle

import (
	"crypto/sha256"
	"math/rand"
	"slices"
	"testing"

	"bedrock/api"
)

// modelPair is the digest of two ids' bytes, by the library.
func modelPair(a, b api.Hash) api.Hash {
	once := sha256.Sum256(slices.Concat(a[:], b[:]))
	return sha256.Sum256(once[:])
}

// modelWidth is how many ids stand at a level: those beneath which at least one of n hangs.
func modelWidth(n, level int) int {
	many := 0
	for first := 0; first < n; first += 1 << level {
		many++
	}
	return many
}

// modelID is the id at a position, by the two parts beneath it.
func modelID(l []api.Hash, level, place int) api.Hash {
	if level == 0 {
		return l[place]
	}
	first := modelID(l, level-1, 2*place)
	if 2*place+1 == modelWidth(len(l), level-1) {
		return modelPair(first, first)
	}
	return modelPair(first, modelID(l, level-1, 2*place+1))
}

// modelDepth is the first level at which there is one id.
func modelDepth(n int) int {
	level := 0
	for modelWidth(n, level) > 1 {
		level++
	}
	return level
}

// modelLevels is all levels, each id by itself.
func modelLevels(l []api.Hash) [][]api.Hash {
	if len(l) == 0 {
		return nil
	}
	var levels [][]api.Hash
	for level := range modelDepth(len(l)) + 1 {
		var ids []api.Hash
		for place := range modelWidth(len(l), level) {
			ids = append(ids, modelID(l, level, place))
		}
		levels = append(levels, ids)
	}
	return levels
}

// modelRoot is the root, and whether at some level two ids that stand together are the same.
func modelRoot(l []api.Hash) (api.Hash, bool) {
	if len(l) == 0 {
		return api.Hash{}, false
	}
	levels, mutated := modelLevels(l), false
	for _, ids := range levels {
		for place, id := range ids {
			if place%2 == 1 && ids[place-1] == id {
				mutated = true
			}
		}
	}
	return levels[len(levels)-1][0], mutated
}

// modelBeneath tells whether an id that is meant hangs beneath a position.
func modelBeneath(marks []bool, level, place int) bool {
	end := min(len(marks), (place+1)<<level)
	return slices.Contains(marks[place<<level:end], true)
}

// modelPart puts a position of a partial tree behind what there is of it.
func modelPart(p api.Partial, l []api.Hash, marks []bool, level, place int) api.Partial {
	if !modelBeneath(marks, level, place) {
		p.Bits, p.Ids = append(p.Bits, false), append(p.Ids, modelID(l, level, place))
		return p
	}
	p.Bits = append(p.Bits, true)
	if level == 0 {
		p.Ids = append(p.Ids, l[place])
		return p
	}
	for _, part := range []int{2 * place, 2*place + 1} {
		if part < modelWidth(len(l), level-1) {
			p = modelPart(p, l, marks, level-1, part)
		}
	}
	return p
}

// modelMeant is the places and ids that are marked.
func modelMeant(l []api.Hash, marks []bool) ([]int, []api.Hash) {
	var places []int
	var ids []api.Hash
	for place, mark := range marks {
		if mark {
			places, ids = append(places, place), append(ids, l[place])
		}
	}
	return places, ids
}

// someID is an id by lots.
func someID(lots *rand.Rand) api.Hash {
	var h api.Hash
	lots.Read(h[:])
	return h
}

// unlike is n ids by lots, no two of which are the same.
func unlike(lots *rand.Rand, n int) []api.Hash {
	l := make([]api.Hash, n)
	for i := range l {
		l[i] = someID(lots)
	}
	return l
}

// ofFew is n ids out of a few, so that many stand twice.
func ofFew(lots *rand.Rand, n, few int) []api.Hash {
	l, from := make([]api.Hash, n), unlike(lots, few)
	for i := range l {
		l[i] = from[lots.Intn(few)]
	}
	return l
}

// grouped is a list in which one aligned run of ids stands again in another place, both by lots: the same ids at some level above 0.
func grouped(lots *rand.Rand, n int) []api.Hash {
	l := unlike(lots, n)
	long := 1 << lots.Intn(5)
	if many := n / long; many > 1 {
		from, to := lots.Intn(many)*long, lots.Intn(many)*long
		copy(l[to:to+long], l[from:from+long])
	}
	return l
}

// everyList is lists of 0 to 40 ids: unlike ones, ones of few, ones with groups that stand twice.
func everyList(seed int64) [][]api.Hash {
	lots := rand.New(rand.NewSource(seed))
	var lists [][]api.Hash
	for n := range 41 {
		lists = append(lists, unlike(lots, n), ofFew(lots, n, 1), ofFew(lots, n, 2), ofFew(lots, n, 5), grouped(lots, n), grouped(lots, n))
	}
	return lists
}

// wantIDs holds two lists of ids against each other; an empty one may be nil.
func wantIDs(t *testing.T, what string, got, want []api.Hash) {
	t.Helper()
	if !slices.Equal(got, want) {
		t.Fatalf("%s: %x, not %x", what, got, want)
	}
}
