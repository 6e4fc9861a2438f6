package tree

import (
	"crypto/sha256"
	"encoding/binary"
	"math/big"
	"slices"
	"testing"

	"bedrock/api"
	"bedrock/block"
)

// idOf is the id of a header by the library's sums.
func idOf(h api.Header) api.Hash {
	low := binary.LittleEndian
	b := low.AppendUint32(nil, h.Version)
	b = append(b, h.Prev[:]...)
	b = append(b, h.Root[:]...)
	for _, n := range []uint32{h.Time, h.Bits, h.Nonce} {
		b = low.AppendUint32(b, n)
	}
	once := sha256.Sum256(b)
	return sha256.Sum256(once[:])
}

// targetOf is the target that bits say, or nil if they may not be.
func targetOf(bits uint32) *big.Int {
	size, m := int(bits>>24), big.NewInt(int64(bits&0x7fffff))
	if size <= 3 {
		m.Rsh(m, uint(8*(3-size)))
	} else {
		m.Lsh(m, uint(8*(size-3)))
	}
	limit := new(big.Int).Lsh(big.NewInt(0x7fffff), 8*29)
	if m.Sign() == 0 || bits&0x800000 != 0 || m.Cmp(limit) > 0 {
		return nil
	}
	return m
}

// bitsOf is the one form of a target.
func bitsOf(w *big.Int) uint32 {
	size := (w.BitLen() + 7) / 8
	m := new(big.Int).Rsh(new(big.Int).Lsh(w, 24), uint(8*size)).Uint64()
	if m&0x800000 != 0 {
		m, size = m>>8, size+1
	}
	return uint32(size)<<24 | uint32(m)
}

// meets tells whether a header meets its target.
func meets(h api.Header) bool {
	id := idOf(h)
	slices.Reverse(id[:])
	most := targetOf(h.Bits)
	return most != nil && new(big.Int).SetBytes(id[:]).Cmp(most) <= 0
}

// mined is a header with the least nonce from its own on with which it meets its target, or does not.
func mined(h api.Header, good bool) api.Header {
	for meets(h) != good {
		h.Nonce++
	}
	return h
}

// kept is what the model knows of a node. Its parent is a place, or -1.
type kept struct {
	id     api.Hash
	h      api.Header
	parent int
	body   bool
	told   bool // that it is bad
	turn   int
}

// model is a tree as the chapter's words have it: a list, each answer worked out from it anew.
type model struct {
	l     []kept
	turns int
}

func newModel() *model {
	h := block.Genesis().Header
	return &model{[]kept{{id: idOf(h), h: h, parent: -1, body: true, turn: 1}}, 1}
}

func (m *model) clone() *model { return &model{slices.Clone(m.l), m.turns} }

func (m *model) find(id api.Hash) int {
	return slices.IndexFunc(m.l, func(x kept) bool { return x.id == id })
}

// chain is the places from genesis to a place.
func (m *model) chain(i int) []int {
	var l []int
	for ; i >= 0; i = m.l[i].parent {
		l = append(l, i)
	}
	slices.Reverse(l)
	return l
}

func (m *model) ids(places []int) []api.Hash {
	var l []api.Hash
	for _, i := range places {
		l = append(l, m.l[i].id)
	}
	return l
}

func (m *model) height(i int) int { return len(m.chain(i)) - 1 }

func (m *model) bad(i int) bool {
	return slices.ContainsFunc(m.chain(i), func(j int) bool { return m.l[j].told })
}

func (m *model) whole(i int) bool {
	return !slices.ContainsFunc(m.chain(i), func(j int) bool { return !m.l[j].body })
}

func (m *model) work(i int) *big.Int {
	sum := new(big.Int)
	for _, j := range m.chain(i) {
		over := targetOf(m.l[j].h.Bits)
		over.Add(over, big.NewInt(1))
		sum.Add(sum, over.Div(new(big.Int).Lsh(big.NewInt(1), 256), over))
	}
	return sum
}

func (m *model) median(i int) uint32 {
	var times []uint32
	chain := m.chain(i)
	for _, j := range chain[max(0, len(chain)-11):] {
		times = append(times, m.l[j].h.Time)
	}
	slices.Sort(times)
	return times[len(times)/2]
}

func (m *model) asked(i int) uint32 {
	chain := m.chain(i)
	if len(chain)%8 != 0 {
		return m.l[i].h.Bits
	}
	first, last := m.l[chain[len(chain)-8]].h.Time, m.l[i].h.Time
	span := min(max(int64(last)-int64(first), 120), 1920)
	next := new(big.Int).Mul(targetOf(m.l[i].h.Bits), big.NewInt(span))
	next.Div(next, big.NewInt(480))
	if limit := targetOf(0x207fffff); next.Cmp(limit) > 0 {
		next = limit
	}
	return bitsOf(next)
}

func (m *model) add(h api.Header, now uint32) (bool, api.Errno) {
	if m.find(idOf(h)) >= 0 {
		return false, api.OK
	}
	if !meets(h) {
		return false, api.ErrProof
	}
	parent := m.find(h.Prev)
	if parent < 0 {
		return false, api.ErrAlone
	}
	for _, fault := range []struct {
		is bool
		e  api.Errno
	}{
		{m.bad(parent), api.ErrBad},
		{h.Bits != m.asked(parent), api.ErrAsked},
		{h.Time <= m.median(parent), api.ErrOld},
		{int64(h.Time) > int64(now)+7200, api.ErrSoon},
		{len(m.l) == 20000, api.ErrMany},
	} {
		if fault.is {
			return false, fault.e
		}
	}
	m.l = append(m.l, kept{id: idOf(h), h: h, parent: parent})
	return true, api.OK
}

func (m *model) body(id api.Hash) ([]api.Hash, api.Errno) {
	i := m.find(id)
	if i < 0 {
		return nil, api.ErrNone
	}
	if m.l[i].body {
		return nil, api.ErrArg
	}
	m.l[i].body = true
	if !m.whole(i) {
		return nil, api.OK
	}
	became := []int{i}
	for at := 0; at < len(became); at++ {
		m.turns++
		m.l[became[at]].turn = m.turns
		for j, x := range m.l {
			if x.parent == became[at] && x.body {
				became = append(became, j)
			}
		}
	}
	return m.ids(became), api.OK
}

func (m *model) makeBad(id api.Hash) ([]api.Hash, api.Errno) {
	i := m.find(id)
	if i < 0 {
		return nil, api.ErrNone
	}
	if i == 0 {
		return nil, api.ErrArg
	}
	was := m.clone()
	m.l[i].told = true
	var became []int
	for j := range m.l {
		if m.bad(j) && !was.bad(j) {
			became = append(became, j)
		}
	}
	return m.ids(became), api.OK
}

// node is what Get answers of a place.
func (m *model) node(i int) api.Node {
	x := m.l[i]
	n := api.Node{ID: x.id, Header: x.h, Height: m.height(i), Order: i, Body: x.body, Whole: m.whole(i), Bad: m.bad(i), Turn: x.turn}
	work := m.work(i)
	for w := range n.Work {
		n.Work[w] = new(big.Int).Rsh(work, uint(64*w)).Uint64()
	}
	return n
}

// better tells whether a node is better than another one, if both may be the best.
func (m *model) better(i, j int) bool {
	c := m.work(i).Cmp(m.work(j))
	return c > 0 || c == 0 && m.l[i].turn < m.l[j].turn
}

func (m *model) mayBeBest(i int) bool { return m.whole(i) && !m.bad(i) }

func (m *model) best() int {
	best := 0
	for i := range m.l {
		if m.mayBeBest(i) && m.better(i, best) {
			best = i
		}
	}
	return best
}

func (m *model) bestHeader() int {
	best := 0
	for i := range m.l {
		if !m.bad(i) && m.work(i).Cmp(m.work(best)) > 0 {
			best = i
		}
	}
	return best
}

func (m *model) kids(i int) []int {
	var l []int
	for j, x := range m.l {
		if x.parent == i {
			l = append(l, j)
		}
	}
	return l
}

func (m *model) tips() []int {
	var l []int
	for i := range m.l {
		if m.kids(i) == nil {
			l = append(l, i)
		}
	}
	return l
}

// both is a tree and its model, to which the same is done.
type both struct {
	*testing.T
	x *Tree
	m *model
}

func newBoth(t *testing.T) *both { return &both{t, New(), newModel()} }

func (b *both) clone() *both { return &both{b.T, b.x.Clone(), b.m.clone()} }

// add hands a header in, and asks for the model's answer.
func (b *both) add(h api.Header, now uint32) api.Errno {
	b.Helper()
	is, e := b.x.Add(h, now)
	wantIs, want := b.m.add(h, now)
	if is != wantIs || e != want {
		b.Fatalf("Add(%+v, %d): %v, %d, not %v, %d", h, now, is, e, wantIs, want)
	}
	return e
}

// body tells of a body, and asks for the model's answer.
func (b *both) body(id api.Hash) api.Errno {
	b.Helper()
	l, e := b.x.Body(id)
	want, wantE := b.m.body(id)
	if !slices.Equal(l, want) || e != wantE {
		b.Fatalf("Body: %d ids, %d, not %d, %d", len(l), e, len(want), wantE)
	}
	spoil(l)
	return e
}

// bad tells of a bad one, and asks for the model's answer.
func (b *both) bad(id api.Hash) api.Errno {
	b.Helper()
	l, e := b.x.Bad(id)
	want, wantE := b.m.makeBad(id)
	if !slices.Equal(l, want) || e != wantE {
		b.Fatalf("Bad: %d ids, %d, not %d, %d", len(l), e, len(want), wantE)
	}
	spoil(l)
	return e
}

// spoil writes over an answer, the spare room behind it too: it is to be memory of its own.
func spoil(l []api.Hash) {
	l = l[:cap(l)]
	for i := range l {
		l[i] = api.Hash{99, 98, 97}
	}
}

// list asks for a list of ids, and spoils it.
func (b *both) list(what string, got []api.Hash, want []int) {
	b.Helper()
	if !slices.Equal(got, b.m.ids(want)) {
		b.Fatalf("%s: %d ids, not %d, or others", what, len(got), len(want))
	}
	spoil(got)
}

// check asks for all that a tree tells of its nodes by themselves.
func (b *both) check() {
	b.Helper()
	all := make([]int, len(b.m.l))
	for i, x := range b.m.l {
		all[i] = i
		if got, ok := b.x.Get(x.id); got != b.m.node(i) || !ok {
			b.Fatalf("Get: %+v, %v, not %+v", got, ok, b.m.node(i))
		}
		b.list("Kids", b.x.Kids(x.id), b.m.kids(i))
		b.list("Chain", b.x.Chain(x.id), b.m.chain(i))
		if bits, time := b.x.NextBits(x.id), b.x.Median(x.id); bits != b.m.asked(i) || time != b.m.median(i) {
			b.Fatalf("NextBits %x, Median %d, not %x, %d", bits, time, b.m.asked(i), b.m.median(i))
		}
	}
	if b.x.Len() != len(all) {
		b.Fatalf("Len: %d, not %d", b.x.Len(), len(all))
	}
	b.list("All", b.x.All(), all)
	b.list("Tips", b.x.Tips(), b.m.tips())
	if b.x.Best() != b.m.l[b.m.best()].id || b.x.BestHeader() != b.m.l[b.m.bestHeader()].id {
		b.Fatalf("Best %x, BestHeader %x, not the places %d, %d", b.x.Best(), b.x.BestHeader(), b.m.best(), b.m.bestHeader())
	}
}

// checkPairs asks for all that a tree tells of its nodes at heights, and of each two of them.
func (b *both) checkPairs() {
	b.Helper()
	chains, whole := make([][]int, len(b.m.l)), make([]bool, len(b.m.l))
	for i := range chains {
		chains[i], whole[i] = b.m.chain(i), b.m.mayBeBest(i)
	}
	for i, x := range b.m.l {
		for height := -1; height <= len(chains[i]); height++ {
			var want api.Hash
			there := height >= 0 && height < len(chains[i])
			if there {
				want = b.m.l[chains[i][height]].id
			}
			if got, ok := b.x.At(x.id, height); got != want || ok != there {
				b.Fatalf("At(place %d, %d): %x, %v", i, height, got, ok)
			}
		}
		for j, y := range b.m.l {
			same := 0
			for same < min(len(chains[i]), len(chains[j])) && chains[i][same] == chains[j][same] {
				same++
			}
			if got, ok := b.x.Fork(x.id, y.id); got != b.m.l[chains[i][same-1]].id || !ok {
				b.Fatalf("Fork(places %d, %d): %x, %v", i, j, got, ok)
			}
			if got := b.x.Above(x.id, y.id); got != slices.Contains(chains[i], j) {
				b.Fatalf("Above(places %d, %d): %v", i, j, got)
			}
			if got := b.x.Better(x.id, y.id); got != (whole[i] && whole[j] && b.m.better(i, j)) {
				b.Fatalf("Better(places %d, %d): %v", i, j, got)
			}
		}
	}
}

// checkNone asks for what a tree tells of an id that is not there.
func (b *both) checkNone(id api.Hash) {
	b.Helper()
	if n, ok := b.x.Get(id); n != (api.Node{}) || ok {
		b.Fatalf("Get of nothing: %+v, %v", n, ok)
	}
	for _, height := range []int{-1, 0, 1} {
		if got, ok := b.x.At(id, height); got != (api.Hash{}) || ok {
			b.Fatalf("At of nothing: %x, %v", got, ok)
		}
	}
	for _, x := range append(b.m.l, kept{id: id}) {
		for _, two := range [][2]api.Hash{{id, x.id}, {x.id, id}} {
			if got, ok := b.x.Fork(two[0], two[1]); got != (api.Hash{}) || ok {
				b.Fatalf("Fork of nothing: %x, %v", got, ok)
			}
			if b.x.Above(two[0], two[1]) || b.x.Better(two[0], two[1]) {
				b.Fatal("Above or Better of nothing")
			}
		}
	}
	if len(b.x.Kids(id)) != 0 || len(b.x.Chain(id)) != 0 || b.x.NextBits(id) != 0 || b.x.Median(id) != 0 {
		b.Fatal("Kids, Chain, NextBits or Median of nothing")
	}
	answers(b.T, b.body(id), api.ErrNone)
	answers(b.T, b.bad(id), api.ErrNone)
}

// answers asks for an answer.
func answers(t *testing.T, got, want api.Errno) {
	t.Helper()
	if got != want {
		t.Fatalf("answered %d, not %d", got, want)
	}
}

// late is a time at which no header is ahead of the clock.
const late = 1<<32 - 1

// on is a header that may stand on a node, so many seconds behind its time; the number tells it apart from others there.
func (b *both) on(id api.Hash, seconds int, number uint32) api.Header {
	n, _ := b.x.Get(id)
	h := api.Header{Version: number, Prev: id, Time: uint32(int(n.Header.Time) + seconds), Bits: b.x.NextBits(id)}
	return mined(h, true)
}

// grow adds so many headers, each on the one ahead of it and so many seconds behind it, and tells their ids.
func (b *both) grow(id api.Hash, count, seconds int, number uint32) []api.Hash {
	b.Helper()
	var l []api.Hash
	for range count {
		h := b.on(id, seconds, number)
		answers(b.T, b.add(h, late), api.OK)
		id = idOf(h)
		l = append(l, id)
	}
	return l
}

// first is the id of genesis.
func first() api.Hash { return idOf(block.Genesis().Header) }
