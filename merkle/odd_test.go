package merkle

import (
	"fmt"
	"math/bits"
	"math/rand"
	"slices"
	"testing"

	"bedrock/api"
)

// modelOdd is the ids of the lowest level with an odd number of more than one, the last one's told again.
func modelOdd(l []api.Hash) []api.Hash {
	for level, ids := range modelLevels(l) {
		if len(ids) > 1 && len(ids)%2 == 1 {
			return slices.Concat(l, l[(len(ids)-1)<<level:])
		}
	}
	return l
}

// Promises 6.4 and 6.5: of each length from 0 to 40, mutated lists too: the list, or a longer one that is mutated and has its root.
func TestOdd(t *testing.T) {
	for _, l := range everyList(40) {
		odd := Odd(l)
		wantIDs(t, fmt.Sprintf("Odd of %d ids", len(l)), odd, modelOdd(l))
		if bits.OnesCount(uint(len(l))) < 2 {
			wantIDs(t, fmt.Sprintf("Odd of %d ids", len(l)), odd, l)
			continue
		}
		root, _ := Root(l)
		if got, mutated := Root(odd); got != root || !mutated || len(odd) <= len(l) {
			t.Fatalf("Odd of %d ids: %d, with %x, %v", len(l), len(odd), got, mutated)
		}
	}
}

// Promise 6.4: of unlike ids no shorter list that tells ids of the end again has the root; nor has any, of a power of two, up to its double.
func TestOddIsShortest(t *testing.T) {
	lots := rand.New(rand.NewSource(41))
	for n := 1; n <= 40; n++ {
		l := unlike(lots, n)
		odd := Odd(l)
		root, _ := Root(l)
		for again := 1; again <= n; again++ {
			longer := slices.Concat(l, l[n-again:])
			if len(longer) == len(odd) {
				wantIDs(t, fmt.Sprintf("Odd of %d ids", n), odd, longer)
				break
			}
			if got, _ := Root(longer); got == root {
				t.Fatalf("Odd of %d ids has %d, but %d would do", n, len(odd), len(longer))
			}
		}
	}
}

// Promise 6.4: how long it is: as long as the list and its lowest bit, or as the list, of a power of two.
func TestOddLengths(t *testing.T) {
	lots := rand.New(rand.NewSource(42))
	for n, want := range map[int]int{0: 0, 1: 1, 2: 2, 3: 4, 4: 4, 5: 6, 6: 8, 7: 8, 8: 8, 9: 10, 10: 12, 12: 16, 20: 24, 24: 32, 32: 32, 40: 48, 1000: 1008, 65536: 65536, 65537: 65538} {
		l := unlike(lots, n)
		if odd := Odd(l); len(odd) != want || !slices.Equal(odd[:n], l) {
			t.Errorf("Odd of %d ids has %d", n, len(odd))
		}
	}
}

// Promise 6.4: of two groups at the end that are the same, the whole of the last one is told again, though a shorter list would do.
func TestOddOfTwins(t *testing.T) {
	a, b, c, d, e := api.Hash{1}, api.Hash{2}, api.Hash{3}, api.Hash{4}, api.Hash{5}
	wantIDs(t, "Odd", Odd([]api.Hash{a, b, c, d, e, e}), []api.Hash{a, b, c, d, e, e, e, e})
	wantIDs(t, "Odd", Odd([]api.Hash{a, a, a}), []api.Hash{a, a, a, a})
}

// The chapter's example 1: of three and of six.
func TestExampleOdd(t *testing.T) {
	a, b, c, d, e, f := api.Hash{1}, api.Hash{2}, api.Hash{3}, api.Hash{4}, api.Hash{5}, api.Hash{6}
	wantIDs(t, "Odd of three", Odd([]api.Hash{a, b, c}), []api.Hash{a, b, c, c})
	wantIDs(t, "Odd of six", Odd([]api.Hash{a, b, c, d, e, f}), []api.Hash{a, b, c, d, e, f, e, f})
}
