package locate

import (
	"crypto/sha256"
	"encoding/binary"
	"math/big"
	"slices"
	"testing"

	"bedrock/api"
	"bedrock/block"
	"bedrock/tree"
)

// idOf is the id of a header by the library's sums.
func idOf(h api.Header) api.Hash {
	low := binary.LittleEndian
	b := low.AppendUint32(nil, h.Version)
	b = append(b, h.Prev[:]...)
	b = append(b, h.Root[:]...)
	for _, n := range []uint32{h.Time, h.Bits, h.Nonce} {
		b = low.AppendUint32(b, n)
	}
	once := sha256.Sum256(b)
	return sha256.Sum256(once[:])
}

// targetOf is the target that bits say, or nil if they may not be.
func targetOf(bits uint32) *big.Int {
	size, m := int(bits>>24), big.NewInt(int64(bits&0x7fffff))
	if size <= 3 {
		m.Rsh(m, uint(8*(3-size)))
	} else {
		m.Lsh(m, uint(8*(size-3)))
	}
	limit := new(big.Int).Lsh(big.NewInt(0x7fffff), 8*29)
	if m.Sign() == 0 || bits&0x800000 != 0 || m.Cmp(limit) > 0 {
		return nil
	}
	return m
}

// meets tells whether a header meets its target.
func meets(h api.Header) bool {
	id := idOf(h)
	slices.Reverse(id[:])
	most := targetOf(h.Bits)
	return most != nil && new(big.Int).SetBytes(id[:]).Cmp(most) <= 0
}

// mined is a header with the least nonce from its own on with which it meets its target, or does not.
func mined(h api.Header, good bool) api.Header {
	for meets(h) != good {
		h.Nonce++
	}
	return h
}

// worked is what Claims tells of headers, by the words of the promise.
func worked(l []api.Header) (api.Wide, int, api.Errno) {
	apart := -1
	for i := len(l) - 1; i > 0; i-- {
		if l[i].Prev != idOf(l[i-1]) {
			apart = i
		}
	}
	wrong := slices.IndexFunc(l, func(h api.Header) bool { return targetOf(h.Bits) == nil })
	if apart >= 0 && (wrong < 0 || apart <= wrong) {
		return api.Wide{}, apart, 150
	}
	if wrong >= 0 {
		return api.Wide{}, wrong, 50
	}
	if weak := slices.IndexFunc(l, func(h api.Header) bool { return !meets(h) }); weak >= 0 {
		return api.Wide{}, weak, 1
	}
	sum, all := new(big.Int), new(big.Int).Lsh(big.NewInt(1), 256)
	for _, h := range l {
		over := targetOf(h.Bits)
		sum.Add(sum, over.Div(all, over.Add(over, big.NewInt(1))))
	}
	var work api.Wide
	for w := range work {
		work[w] = new(big.Int).Rsh(sum, uint(64*w)).Uint64()
	}
	return work, 0, 0
}

// heightsOf is the heights of a locator by the words of the chapter, while they are no more than 64.
func heightsOf(height int) []int {
	var l []int
	for i := 0; i < 10 && i <= height; i++ {
		l = append(l, height-i)
	}
	for k := 1; height-9 > 1<<(k+1)-2; k++ { // 2 and 4 and so on up to 2^k are 2^(k+1) - 2
		l = append(l, height-9-(1<<(k+1)-2))
	}
	if height > 0 && l[len(l)-1] != 0 {
		l = append(l, 0)
	}
	return l
}

// world is a tree, and what the model knows of it: of each id the chain from genesis to it.
type world struct {
	*testing.T
	x       *tree.Tree
	ids     []api.Hash // in the order in which they were added
	chains  map[api.Hash][]api.Hash
	headers map[api.Hash]api.Header
}

func newWorld(t *testing.T) *world {
	h := block.Genesis().Header
	id := idOf(h)
	return &world{t, tree.New(), []api.Hash{id}, map[api.Hash][]api.Hash{id: {id}}, map[api.Hash]api.Header{id: h}}
}

// grow adds n headers behind one another on a block; mark sets them apart from others there.
func (w *world) grow(on api.Hash, n int, mark byte) []api.Hash {
	w.Helper()
	var l []api.Hash
	for range n {
		h := api.Header{Version: 1, Prev: on, Root: api.Hash{mark}, Time: w.headers[on].Time + 75, Bits: w.x.NextBits(on)}
		h = mined(h, true)
		if is, e := w.x.Add(h, h.Time); !is || e != api.OK {
			w.Fatalf("Add: %v, %d", is, e)
		}
		id := idOf(h)
		w.chains[id], w.headers[id] = append(slices.Clone(w.chains[on]), id), h
		w.ids, l, on = append(w.ids, id), append(l, id), id
	}
	return l
}

// forked is a tree with many forks, some of them at the same block, and one of a fork.
func forked(t *testing.T) *world {
	w := newWorld(t)
	trunk := w.grow(w.ids[0], 110, 1)
	for i, from := range []int{0, 1, 9, 10, 61, 80, 80, 108} {
		w.grow(trunk[from], 1+3*i, byte(2+i))
	}
	other := w.grow(w.ids[0], 5, 20)
	w.grow(other[2], 4, 21)
	if len(w.x.Tips()) != 11 {
		t.Fatalf("%d tips", len(w.x.Tips()))
	}
	return w
}

// same is how many of the first blocks of two chains are the same.
func same(a, b []api.Hash) int {
	n := 0
	for n < min(len(a), len(b)) && a[n] == b[n] {
		n++
	}
	return n
}

// locator is that of a block by the model.
func (w *world) locator(id api.Hash) []api.Hash {
	chain := w.chains[id]
	var l []api.Hash
	for _, height := range heightsOf(len(chain) - 1) {
		l = append(l, chain[height])
	}
	return l
}

// found is what Find tells, by the words of the promise.
func (w *world) found(tip api.Hash, locator []api.Hash) api.Hash {
	for _, id := range locator {
		if slices.Contains(w.chains[tip], id) {
			return id
		}
	}
	return w.ids[0]
}

// told is what Headers tells, by the words of the promise.
func (w *world) told(tip api.Hash, locator []api.Hash, stop api.Hash, most int) ([]api.Header, api.Errno) {
	chain, there := w.chains[tip]
	if !there {
		return nil, 2
	}
	if most < 0 {
		return nil, 1
	}
	behind := chain[slices.Index(chain, w.found(tip, locator))+1:]
	if len(locator) == 0 {
		behind = nil
		if _, there := w.headers[stop]; there {
			behind = []api.Hash{stop}
		}
	}
	var l []api.Header
	for _, id := range behind {
		if len(l) == most {
			break
		}
		l = append(l, w.headers[id])
		if id == stop {
			break
		}
	}
	return l, 0
}

// spoil writes over an answer, the spare room behind it too: it is to be memory of its own.
func spoil[T any](l []T) {
	clear(l[:cap(l)])
}
