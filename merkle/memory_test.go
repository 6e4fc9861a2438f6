package merkle

import (
	"math/rand"
	"slices"
	"testing"

	"bedrock/api"
)

// roomy is a list with spare room behind its end, in which other ids lie.
func roomy(lots *rand.Rand, n int) []api.Hash { return unlike(lots, n+9)[:n] }

// overwrite fills a list, and the spare room behind its end, with other values.
func overwrite[T any](l []T, with T) {
	whole := l[:cap(l)]
	for i := range whole {
		whole[i] = with
	}
}

// kept runs calls that answer lists of ids, and asks that nothing of the list that is handed in is changed, and that no answer shares memory with it or with another answer.
func kept(t *testing.T, l []api.Hash, call func([]api.Hash) [][]api.Hash) {
	t.Helper()
	before := slices.Clone(l[:cap(l)])
	answers := call(l)
	var want [][]api.Hash
	for _, ids := range answers {
		want = append(want, slices.Clone(ids))
	}
	for i, ids := range answers {
		overwrite(ids, api.Hash{0xee, byte(i)})
		for later := i + 1; later < len(answers); later++ {
			if !slices.Equal(answers[later], want[later]) {
				t.Fatalf("lists %d and %d of %d ids share memory", i, later, len(l))
			}
		}
	}
	if !slices.Equal(l[:cap(l)], before) {
		t.Fatalf("a list of %d ids was changed", len(l))
	}
	if again := call(l); !slices.EqualFunc(again, want, slices.Equal[[]api.Hash]) {
		t.Fatalf("the second answer of %d ids is another one", len(l))
	}
}

// Rules R4 and R5: what is handed in stays as it is, answers are new memory, and the same call answers the same.
func TestMemory(t *testing.T) {
	lots := rand.New(rand.NewSource(50))
	for n := range 41 {
		l := roomy(lots, n)
		kept(t, l, Levels)
		kept(t, l, func(l []api.Hash) [][]api.Hash { return [][]api.Hash{Odd(l), Odd(l)} })
		kept(t, l, func(l []api.Hash) [][]api.Hash {
			root, _ := Root(l)
			return [][]api.Hash{{root}}
		})
		if n == 0 {
			continue
		}
		kept(t, l, func(l []api.Hash) [][]api.Hash {
			first, _ := Branch(l, n-1)
			second, _ := Branch(l, 0)
			return [][]api.Hash{first, second}
		})
		kept(t, l[:min(n, 32)], func(branch []api.Hash) [][]api.Hash {
			id, _ := Check(api.Hash{1}, 0, branch)
			return [][]api.Hash{{id}}
		})
	}
}

// Rules R4 and R5: the same for partial trees, with their marks and bits.
func TestMemoryOfPartials(t *testing.T) {
	lots := rand.New(rand.NewSource(51))
	for n := 1; n <= 40; n++ {
		l := roomy(lots, n)
		for _, marks := range everyMarks(lots, n) {
			marks = append(marks, true, false, true)[:n]
			marksBefore := slices.Clone(marks[:cap(marks)])
			kept(t, l, func(l []api.Hash) [][]api.Hash {
				p, _ := Part(l, marks)
				overwrite(p.Bits, true)
				return [][]api.Hash{p.Ids}
			})
			if !slices.Equal(marks[:cap(marks)], marksBefore) {
				t.Fatalf("marks of %d ids were changed", n)
			}
			p, _ := Part(l, marks)
			bits := append(slices.Clone(p.Bits), true, false)
			bitsBefore := slices.Clone(bits[:cap(bits)])
			p.Bits = bits[:len(p.Bits)]
			p.Ids = append(slices.Clone(p.Ids), api.Hash{9})[:len(p.Ids)]
			kept(t, p.Ids, func(ids []api.Hash) [][]api.Hash {
				root, places, meant, _ := Read(api.Partial{Count: n, Bits: p.Bits, Ids: ids})
				overwrite(places, -1)
				return [][]api.Hash{{root}, meant}
			})
			if !slices.Equal(bits[:cap(bits)], bitsBefore) {
				t.Fatalf("bits of %d ids were changed", n)
			}
		}
	}
}
