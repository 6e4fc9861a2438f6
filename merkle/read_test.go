package merkle

import (
	"fmt"
	"math"
	"math/rand"
	"slices"
	"testing"

	"bedrock/api"
)

// checkNoRead asks for ErrPartial and nothing beside it.
func checkNoRead(t *testing.T, p api.Partial) {
	t.Helper()
	if root, places, ids, e := Read(p); root != (api.Hash{}) || len(places) != 0 || len(ids) != 0 || e != api.ErrPartial {
		t.Fatalf("Read of %d, %v, %d ids: %x, %v, %x, %d", p.Count, p.Bits, len(p.Ids), root, places, ids, e)
	}
}

// spot is a position of a tree.
type spot struct{ level, place int }

// shape is the bits of a partial tree, and the positions whose ids it tells.
type shape struct {
	bits  []bool
	spots []spot
}

// shapes is every shape that what is beneath a position of a tree of n ids can have.
func shapes(n, level, place int) []shape {
	here := []spot{{level, place}}
	l := []shape{{[]bool{false}, here}}
	if level == 0 {
		return append(l, shape{[]bool{true}, here})
	}
	for _, first := range shapes(n, level-1, 2*place) {
		if 2*place+1 == modelWidth(n, level-1) {
			l = append(l, shape{slices.Concat([]bool{true}, first.bits), first.spots})
			continue
		}
		for _, second := range shapes(n, level-1, 2*place+1) {
			l = append(l, shape{slices.Concat([]bool{true}, first.bits, second.bits), slices.Concat(first.spots, second.spots)})
		}
	}
	return l
}

// valueOf is the id at a position, by the ids that are told.
func valueOf(n int, told map[spot]api.Hash, at spot) api.Hash {
	if id, there := told[at]; there {
		return id
	}
	first := valueOf(n, told, spot{at.level - 1, 2 * at.place})
	if 2*at.place+1 == modelWidth(n, at.level-1) {
		return modelPair(first, first)
	}
	return modelPair(first, valueOf(n, told, spot{at.level - 1, 2*at.place + 1}))
}

// bitsKey is bits as a text.
func bitsKey(bits []bool) string { return fmt.Sprint(bits) }

// checkShape holds what is read of ids in a shape against what they come to.
func checkShape(t *testing.T, n int, s shape, ids []api.Hash) {
	t.Helper()
	told := map[spot]api.Hash{}
	var wantPlaces []int
	var wantIds []api.Hash
	leafBits := leafMarks(n, s.bits)
	for i, at := range s.spots {
		told[at] = ids[i]
		if leafBits[at] {
			wantPlaces, wantIds = append(wantPlaces, at.place), append(wantIds, ids[i])
		}
	}
	root, places, meant, e := Read(api.Partial{Count: n, Bits: s.bits, Ids: ids})
	if root != valueOf(n, told, spot{modelDepth(n), 0}) || !slices.Equal(places, wantPlaces) || !slices.Equal(meant, wantIds) || e != api.OK {
		t.Fatalf("Read of %d, %v: %x, %v, %x, %d", n, s.bits, root, places, meant, e)
	}
}

// leafMarks is the bits of the positions at level 0, of bits that are of a shape; the positions that are still to be gone to are held on a stack.
func leafMarks(n int, bits []bool) map[spot]bool {
	marks, left := map[spot]bool{}, []spot{{modelDepth(n), 0}}
	for _, bit := range bits {
		at := left[len(left)-1]
		left = left[:len(left)-1]
		if at.level == 0 {
			marks[at] = bit
		} else if bit {
			for part := 1; part >= 0; part-- {
				if 2*at.place+part < modelWidth(n, at.level-1) {
					left = append(left, spot{at.level - 1, 2*at.place + part})
				}
			}
		}
	}
	return marks
}

// Promise 6.3: of small trees all bits there can be: those that are of a shape are read with as many ids as it tells, and with no others; all others are refused with any number of ids.
func TestReadAllBits(t *testing.T) {
	ids := unlike(rand.New(rand.NewSource(30)), 8)
	for n := 1; n <= 5; n++ {
		good := map[string]shape{}
		most := 0
		for _, s := range shapes(n, modelDepth(n), 0) {
			good[bitsKey(s.bits)] = s
			most = max(most, len(s.bits))
		}
		for long := range most + 2 {
			for lot := range 1 << long {
				bits := make([]bool, long)
				for i := range bits {
					bits[i] = lot>>i&1 == 1
				}
				s, there := good[bitsKey(bits)]
				for many := range 8 {
					if there && many == len(s.spots) {
						checkShape(t, n, s, ids[:many])
						continue
					}
					checkNoRead(t, api.Partial{Count: n, Bits: bits, Ids: ids[:many]})
				}
			}
		}
	}
}

// Promise 6.3: bits or ids that come to an end too early, and some that are left, of trees of 1 to 40 ids.
func TestReadTooFewOrMany(t *testing.T) {
	lots := rand.New(rand.NewSource(31))
	for n := 1; n <= 40; n++ {
		l := unlike(lots, n)
		for _, marks := range everyMarks(lots, n) {
			p, _ := Part(l, marks)
			for cut := range p.Bits {
				checkNoRead(t, api.Partial{Count: n, Bits: p.Bits[:cut], Ids: p.Ids})
			}
			for cut := range p.Ids {
				checkNoRead(t, api.Partial{Count: n, Bits: p.Bits, Ids: p.Ids[:cut]})
			}
			for _, bit := range []bool{false, true} {
				checkNoRead(t, api.Partial{Count: n, Bits: append(slices.Clone(p.Bits), bit), Ids: p.Ids})
				checkNoRead(t, api.Partial{Count: n, Bits: append(slices.Clone(p.Bits), bit), Ids: append(slices.Clone(p.Ids), someID(lots))})
			}
			checkNoRead(t, api.Partial{Count: n, Bits: p.Bits, Ids: append(slices.Clone(p.Ids), someID(lots))})
		}
	}
}

// Promise 6.3: nothing at all, of any Count.
func TestReadNothing(t *testing.T) {
	checkNoRead(t, api.Partial{})
	for n := range 41 {
		checkNoRead(t, api.Partial{Count: n})
		checkNoRead(t, api.Partial{Count: n, Bits: []bool{}, Ids: []api.Hash{}})
		checkNoRead(t, api.Partial{Count: n, Bits: []bool{false}})
		checkNoRead(t, api.Partial{Count: n, Bits: []bool{true}})
		checkNoRead(t, api.Partial{Count: n, Ids: []api.Hash{{1}}})
	}
}

// Promise 6.3: Count below 1, above MaxLeaves, and at both edges.
func TestReadCount(t *testing.T) {
	id := api.Hash{7}
	for _, n := range []int{0, -1, -2, -65536, math.MinInt, api.MaxLeaves + 1, api.MaxLeaves * 2, 1 << 40, math.MaxInt} {
		for _, bit := range []bool{false, true} {
			checkNoRead(t, api.Partial{Count: n, Bits: []bool{bit}, Ids: []api.Hash{id}})
		}
		checkNoRead(t, api.Partial{Count: n})
	}
	for _, n := range []int{1, 2, 3, 40, api.MaxLeaves - 1, api.MaxLeaves} {
		root, places, ids, e := Read(api.Partial{Count: n, Bits: []bool{false}, Ids: []api.Hash{id}})
		if root != id || len(places) != 0 || len(ids) != 0 || e != api.OK {
			t.Errorf("Read of %d, a root alone: %x, %v, %x, %d", n, root, places, ids, e)
		}
	}
	root, places, ids, e := Read(api.Partial{Count: 1, Bits: []bool{true}, Ids: []api.Hash{id}})
	if root != id || !slices.Equal(places, []int{0}) || !slices.Equal(ids, []api.Hash{id}) || e != api.OK {
		t.Errorf("Read of one that is meant: %x, %v, %x, %d", root, places, ids, e)
	}
}

// Promise 6.3: the last of MaxLeaves places, by bits and ids that are written out; with one more Count it is none.
func TestReadLastOfMost(t *testing.T) {
	lots := rand.New(rand.NewSource(32))
	last := someID(lots)
	others := unlike(lots, 16)
	var p api.Partial
	want := last
	for i := range others { // from the root down: each first part is told, each second one gone to
		p.Bits = append(p.Bits, true, false)
		p.Ids = append(p.Ids, others[i])
		want = modelPair(others[15-i], want)
	}
	p.Bits, p.Ids = append(p.Bits, true), append(p.Ids, last)
	p.Count = api.MaxLeaves
	root, places, ids, e := Read(p)
	if root != want || !slices.Equal(places, []int{api.MaxLeaves - 1}) || !slices.Equal(ids, []api.Hash{last}) || e != api.OK {
		t.Errorf("Read: %x, %v, %x, %d", root, places, ids, e)
	}
	for _, n := range []int{api.MaxLeaves + 1, api.MaxLeaves - 1, api.MaxLeaves / 2} {
		p.Count = n
		checkNoRead(t, p)
	}
}

// shaped tells whether a partial tree has a shape that there is.
func shaped(p api.Partial) bool {
	for _, s := range shapes(p.Count, modelDepth(p.Count), 0) {
		if slices.Equal(s.bits, p.Bits) && len(s.spots) == len(p.Ids) {
			return true
		}
	}
	return false
}

// Promise 6.3: another Count, and bits that are changed, of trees of 1 to 6 ids.
func TestReadChanged(t *testing.T) {
	lots := rand.New(rand.NewSource(33))
	for n := 1; n <= 6; n++ {
		l := unlike(lots, n)
		for _, marks := range everyMarks(lots, n) {
			p, _ := Part(l, marks)
			for other := 1; other <= 6; other++ {
				checkChanged(t, api.Partial{Count: other, Bits: p.Bits, Ids: p.Ids})
			}
			for at := range p.Bits {
				bits := slices.Clone(p.Bits)
				bits[at] = !bits[at]
				checkChanged(t, api.Partial{Count: n, Bits: bits, Ids: p.Ids})
			}
		}
	}
}

// checkChanged asks for ErrPartial just if there is no such shape; ids are unlike.
func checkChanged(t *testing.T, p api.Partial) {
	t.Helper()
	if !shaped(p) {
		checkNoRead(t, p)
		return
	}
	if _, _, _, e := Read(p); e != api.OK {
		t.Fatalf("Read of %d, %v, %d ids: %d", p.Count, p.Bits, len(p.Ids), e)
	}
}

// Promise 6.3: a changed id comes to another root, or to another meant id.
func TestReadChangedIds(t *testing.T) {
	lots := rand.New(rand.NewSource(34))
	for n := 1; n <= 40; n++ {
		l := unlike(lots, n)
		root, _ := Root(l)
		for _, marks := range everyMarks(lots, n) {
			p, _ := Part(l, marks)
			p.Ids[lots.Intn(len(p.Ids))] = someID(lots)
			if got, _, _, e := Read(p); got == root || e != api.OK {
				t.Fatalf("Read of %d with another id: %x, %d", n, got, e)
			}
		}
	}
}

// Promise 6.3: two parts that are both there may not be the same: at level 0, above it, and where one or both are worked out.
func TestReadSameParts(t *testing.T) {
	a, b, c := api.Hash{1}, api.Hash{2}, api.Hash{3}
	ab := modelPair(a, b)
	for _, p := range []api.Partial{
		{Count: 2, Bits: []bool{true, true, true}, Ids: []api.Hash{a, a}},
		{Count: 2, Bits: []bool{true, true, false}, Ids: []api.Hash{a, a}},
		{Count: 2, Bits: []bool{true, false, false}, Ids: []api.Hash{a, a}},
		{Count: 2, Bits: []bool{true, true, true}, Ids: []api.Hash{{}, {}}},
		{Count: 4, Bits: []bool{true, false, false}, Ids: []api.Hash{ab, ab}},
		{Count: 4, Bits: []bool{true, true, true, false, false}, Ids: []api.Hash{a, b, ab}},
		{Count: 4, Bits: []bool{true, false, true, false, true}, Ids: []api.Hash{ab, a, b}},
		{Count: 4, Bits: []bool{true, true, true, true, true, true, true}, Ids: []api.Hash{a, b, a, b}},
		{Count: 4, Bits: []bool{true, true, true, true, true, true, true}, Ids: []api.Hash{a, b, c, c}},
		{Count: 4, Bits: []bool{true, true, true, true, false}, Ids: []api.Hash{a, a, b}},
		{Count: 3, Bits: []bool{true, true, true, true, true, true}, Ids: []api.Hash{a, a, b}},
		{Count: 3, Bits: []bool{true, false, true, true}, Ids: []api.Hash{modelPair(c, c), c}},
	} {
		checkNoRead(t, p)
	}
	for _, p := range []api.Partial{
		{Count: 3, Bits: []bool{true, true, true, true, true, true}, Ids: []api.Hash{a, b, b}},
		{Count: 3, Bits: []bool{true, true, true, true, true, true}, Ids: []api.Hash{a, b, a}},
		{Count: 4, Bits: []bool{true, true, true, true, true, true, true}, Ids: []api.Hash{a, b, b, a}},
		{Count: 5, Bits: []bool{true, false, true, true, true}, Ids: []api.Hash{c, a}},
		{Count: 2, Bits: []bool{false}, Ids: []api.Hash{modelPair(a, a)}},
	} {
		if _, _, _, e := Read(p); e != api.OK {
			t.Errorf("Read of %d, %v: %d", p.Count, p.Bits, e)
		}
	}
}

// Promise 6.3: a position may be gone to though nothing beneath it is meant; the root is the same.
func TestReadWithoutMeant(t *testing.T) {
	a, b := api.Hash{1}, api.Hash{2}
	root, places, ids, e := Read(api.Partial{Count: 2, Bits: []bool{true, false, false}, Ids: []api.Hash{a, b}})
	if root != modelPair(a, b) || len(places) != 0 || len(ids) != 0 || e != api.OK {
		t.Errorf("Read: %x, %v, %x, %d", root, places, ids, e)
	}
}
