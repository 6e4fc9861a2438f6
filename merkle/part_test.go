package merkle

import (
	"math/rand"
	"slices"
	"testing"

	"bedrock/api"
)

// everyMarks is marks of n ids: none, all, each alone, all but each, and some by lots.
func everyMarks(lots *rand.Rand, n int) [][]bool {
	none, all := make([]bool, n), make([]bool, n)
	for i := range all {
		all[i] = true
	}
	marks := [][]bool{none, all}
	for i := range n {
		one, others := slices.Clone(none), slices.Clone(all)
		one[i], others[i] = true, false
		marks = append(marks, one, others)
	}
	for _, parts := range []int{2, 2, 2, 3, 3, 8, 8} {
		some := make([]bool, n)
		for i := range some {
			some[i] = lots.Intn(parts) == 0
		}
		marks = append(marks, some)
	}
	return marks
}

// samePart tells whether two partial trees are the same.
func samePart(a, b api.Partial) bool {
	return a.Count == b.Count && slices.Equal(a.Bits, b.Bits) && slices.Equal(a.Ids, b.Ids)
}

// Promise 6.3: the partial tree of lists of 1 to 40 ids, mutated ones too, and marks of all kinds.
func TestPart(t *testing.T) {
	lots := rand.New(rand.NewSource(20))
	for n := 1; n <= 40; n++ {
		for _, l := range [][]api.Hash{unlike(lots, n), ofFew(lots, n, 2), grouped(lots, n)} {
			for _, marks := range everyMarks(lots, n) {
				want := modelPart(api.Partial{Count: n}, l, marks, modelDepth(n), 0)
				if got, e := Part(l, marks); !samePart(got, want) || e != api.OK {
					t.Fatalf("Part of %d ids, %v: %v, %d, not %v", n, marks, got, e, want)
				}
			}
		}
	}
}

// Promise 6.3: partial trees written out.
func TestPartWrittenOut(t *testing.T) {
	a, b, c := api.Hash{1}, api.Hash{2}, api.Hash{3}
	three, _ := modelRoot([]api.Hash{a, b, c})
	for _, x := range []struct {
		l     []api.Hash
		marks []bool
		bits  []bool
		ids   []api.Hash
	}{
		{[]api.Hash{a}, []bool{false}, []bool{false}, []api.Hash{a}},
		{[]api.Hash{a}, []bool{true}, []bool{true}, []api.Hash{a}},
		{[]api.Hash{a, b}, []bool{false, true}, []bool{true, false, true}, []api.Hash{a, b}},
		{[]api.Hash{a, b, c}, []bool{false, false, false}, []bool{false}, []api.Hash{three}},
		{[]api.Hash{a, b, c}, []bool{false, false, true}, []bool{true, false, true, true}, []api.Hash{modelPair(a, b), c}},
		{[]api.Hash{a, b, c}, []bool{true, false, false}, []bool{true, true, true, false, false}, []api.Hash{a, b, modelPair(c, c)}},
		{[]api.Hash{a, b, c}, []bool{true, true, true}, []bool{true, true, true, true, true, true}, []api.Hash{a, b, c}},
	} {
		want := api.Partial{Count: len(x.l), Bits: x.bits, Ids: x.ids}
		if got, e := Part(x.l, x.marks); !samePart(got, want) || e != api.OK {
			t.Errorf("Part(%x, %v): %v, %d", x.l, x.marks, got, e)
		}
	}
}

// checkNoPart asks for an error and nothing beside it.
func checkNoPart(t *testing.T, l []api.Hash, marks []bool, want api.Errno) {
	t.Helper()
	if got, e := Part(l, marks); got.Count != 0 || len(got.Bits) != 0 || len(got.Ids) != 0 || e != want {
		t.Errorf("Part of %d ids, %d marks: %d, %d", len(l), len(marks), got.Count, e)
	}
}

// Promise 6.3: no ids, and another number of marks.
func TestPartArguments(t *testing.T) {
	lots := rand.New(rand.NewSource(21))
	checkNoPart(t, nil, nil, api.ErrArg)
	checkNoPart(t, []api.Hash{}, []bool{}, api.ErrArg)
	for n := range 41 {
		for _, more := range []int{-40, -2, -1, 1, 2, 40} {
			if n+more >= 0 {
				checkNoPart(t, unlike(lots, n), make([]bool, n+more), api.ErrArg)
			}
		}
	}
	checkNoPart(t, unlike(lots, 3), nil, api.ErrArg)
}

// Promise 6.3: as many ids as there may be, and one more; a wrong number of marks is told ahead of too many ids.
func TestPartMany(t *testing.T) {
	lots := rand.New(rand.NewSource(22))
	l, marks := unlike(lots, api.MaxLeaves+1), make([]bool, api.MaxLeaves+2)
	marks[0], marks[12345], marks[65535] = true, true, true
	checkNoPart(t, l, marks[:api.MaxLeaves+1], api.ErrMany)
	checkNoPart(t, l, marks[:api.MaxLeaves], api.ErrArg)
	checkNoPart(t, l, marks, api.ErrArg)
	checkNoPart(t, l[:api.MaxLeaves], marks, api.ErrArg)
	l, marks = l[:api.MaxLeaves], marks[:api.MaxLeaves]
	p, e := Part(l, marks)
	if e != api.OK || p.Count != api.MaxLeaves {
		t.Fatalf("Part of MaxLeaves: %d, %d", p.Count, e)
	}
	checkRead(t, p, l, marks)
	for i := range marks {
		marks[i] = true
	}
	p, e = Part(l, marks)
	if e != api.OK || len(p.Bits) != 2*api.MaxLeaves-1 || !slices.Equal(p.Ids, l) {
		t.Fatalf("Part of MaxLeaves, all meant: %d bits, %d", len(p.Bits), e)
	}
	checkRead(t, p, l, marks)
}

// checkRead holds what is read of a partial tree against its list and marks.
func checkRead(t *testing.T, p api.Partial, l []api.Hash, marks []bool) {
	t.Helper()
	root, places, ids, e := Read(p)
	wantRoot, _ := Root(l)
	wantPlaces, wantIds := modelMeant(l, marks)
	if root != wantRoot || e != api.OK || !slices.Equal(places, wantPlaces) || !slices.Equal(ids, wantIds) {
		t.Fatalf("Read of Part of %d ids: %x, %v, %x, %d", len(l), root, places, ids, e)
	}
}

// Promises 6.3 and 6.5: Read of Part is the root and the meant ones, rising, of lists that are not mutated.
func TestReadOfPart(t *testing.T) {
	lots := rand.New(rand.NewSource(23))
	for n := 1; n <= 40; n++ {
		for _, l := range [][]api.Hash{unlike(lots, n), ofFew(lots, n, 8), grouped(lots, n)} {
			if _, mutated := Root(l); mutated {
				continue
			}
			for _, marks := range everyMarks(lots, n) {
				p, _ := Part(l, marks)
				checkRead(t, p, l, marks)
			}
		}
	}
}

// exposes tells whether the marks of a list lead to a position whose two parts are the same.
func exposes(l []api.Hash, marks []bool) bool {
	for level, ids := range modelLevels(l) {
		for place := 1; place < len(ids); place += 2 {
			if ids[place-1] == ids[place] && modelBeneath(marks, level+1, place/2) {
				return true
			}
		}
	}
	return false
}

// Promises 6.3 and 6.5: of a mutated list what Part tells is read just where no position with two same parts is gone to.
func TestReadOfMutated(t *testing.T) {
	lots := rand.New(rand.NewSource(24))
	refused, read := 0, 0
	for n := 2; n <= 40; n++ {
		for range 8 {
			l := [][]api.Hash{ofFew(lots, n, 6), grouped(lots, n)}[lots.Intn(2)]
			for _, marks := range everyMarks(lots, n) {
				p, e := Part(l, marks)
				if e != api.OK {
					t.Fatalf("Part of %d ids: %d", n, e)
				}
				if exposes(l, marks) {
					checkNoRead(t, p)
					refused++
					continue
				}
				checkRead(t, p, l, marks)
				read++
			}
		}
	}
	if refused == 0 || read == 0 {
		t.Errorf("%d refused, %d read", refused, read)
	}
}
