package chain

import (
	"math/big"
	"slices"

	"bedrock/api"
	"bedrock/block"
	"bedrock/tree"
	"bedrock/valid"
)

// known is what the model knows of a header that was taken.
type known struct {
	id     api.Hash
	block  api.Block // its transactions stand there if it has its body
	parent int       // its place, or -1
	body   bool
	marked bool // as bad, by itself
	turn   int  // in which it became whole, or 0
}

// model is a chain by the chapter's words: a list of headers, everything else worked out from it anew.
type model struct {
	l       []known
	headers *tree.Tree // of which only the errors of headers are asked
	turns   int
	tip     int
	played  map[api.Hash]played // what was connected once need not be again: it hangs on the block alone
}

// played is what connecting a block's chain from genesis on came to.
type played struct {
	coins *valid.Coins
	undo  api.Undo
	e     api.Errno
}

func newModel() *model {
	g := block.Genesis()
	return &model{
		l:       []known{{id: block.ID(g.Header), block: g, parent: -1, body: true, turn: 1}},
		headers: tree.New(),
		turns:   1,
		played:  map[api.Hash]played{},
	}
}

func (m *model) clone() *model {
	return &model{slices.Clone(m.l), m.headers.Clone(), m.turns, m.tip, m.played}
}

func (m *model) find(id api.Hash) int {
	return slices.IndexFunc(m.l, func(k known) bool { return k.id == id })
}

// way is the places from genesis to a place.
func (m *model) way(i int) []int {
	var l []int
	for ; i >= 0; i = m.l[i].parent {
		l = append(l, i)
	}
	slices.Reverse(l)
	return l
}

func (m *model) height(i int) int { return len(m.way(i)) - 1 }

func (m *model) bad(i int) bool {
	return slices.ContainsFunc(m.way(i), func(j int) bool { return m.l[j].marked })
}

// work is the work of a place's chain, by the targets of its headers.
func (m *model) work(i int) *big.Int {
	sum := new(big.Int)
	for _, j := range m.way(i) {
		bits := m.l[j].block.Header.Bits
		goal := new(big.Int).Lsh(big.NewInt(int64(bits&0x7fffff)), uint(8*(bits>>24-3)))
		all := new(big.Int).Lsh(big.NewInt(1), 256)
		sum.Add(sum, all.Div(all, goal.Add(goal, big.NewInt(1))))
	}
	return sum
}

// best is the place of the whole one that is not bad with the most work; of several the one that became whole first.
func (m *model) best() int {
	best := 0
	for i, k := range m.l {
		if k.turn == 0 || m.bad(i) {
			continue
		}
		if c := m.work(i).Cmp(m.work(best)); c > 0 || c == 0 && k.turn < m.l[best].turn {
			best = i
		}
	}
	return best
}

// header takes a header.
func (m *model) header(h api.Header, now uint32) (bool, api.Errno) {
	added, e := m.headers.Add(h, now)
	if added {
		m.l = append(m.l, known{id: block.ID(h), block: api.Block{Header: h}, parent: m.find(h.Prev)})
	}
	return added, e
}

// load takes a block.
func (m *model) load(b api.Block, now uint32) api.Errno {
	if !block.Whole(b) {
		return api.ErrRoots
	}
	if i := m.find(block.ID(b.Header)); i >= 0 && m.l[i].body {
		return api.ErrHave
	}
	if _, e := m.header(b.Header, now); e != 0 {
		return e
	}
	i := m.find(block.ID(b.Header))
	if m.bad(i) {
		return api.ErrBad
	}
	if e := valid.Check(b); e != 0 {
		m.mark(i)
		return e
	}
	m.l[i].block, m.l[i].body = b, true
	m.becomeWhole([]int{i})
	return 0
}

// becomeWhole gives turns to what stands whole now, one behind the other.
func (m *model) becomeWhole(queue []int) {
	for ; len(queue) > 0; queue = queue[1:] {
		i := queue[0]
		if m.l[i].body && m.l[m.l[i].parent].turn > 0 {
			m.turns++
			m.l[i].turn = m.turns
			for j, k := range m.l {
				if k.parent == i {
					queue = append(queue, j)
				}
			}
		}
	}
}

func (m *model) mark(i int) {
	m.l[i].marked = true
	m.headers.Bad(m.l[i].id)
}

// play connects a place's chain from genesis on.
func (m *model) play(i int) played {
	k := m.l[i]
	if p, there := m.played[k.id]; there {
		return p
	}
	p := played{coins: valid.NewCoins()}
	if i > 0 {
		ahead := m.play(k.parent)
		p.coins = ahead.coins.Clone()
		p.undo, p.e = p.coins.Connect(k.block, m.height(i))
	}
	m.played[k.id] = p
	return p
}

// activate turns to what is best, and tells the steps.
func (m *model) activate() []api.Step {
	var steps []api.Step
	for m.tip != m.best() {
		to := m.way(m.best())
		for !slices.Contains(to, m.tip) {
			steps = append(steps, m.step(api.StepUndo, m.tip, 0))
			m.tip = m.l[m.tip].parent
		}
		for _, i := range to[m.height(m.tip)+1:] {
			if e := m.play(i).e; e != 0 {
				m.mark(i)
				steps = append(steps, m.step(api.StepRefuse, i, e))
				break
			}
			m.tip = i
			steps = append(steps, m.step(api.StepConnect, i, 0))
		}
	}
	return steps
}

func (m *model) step(kind, i int, e api.Errno) api.Step {
	return api.Step{Kind: kind, ID: m.l[i].id, Height: m.height(i), Err: e}
}

// invalidate has a block be bad.
func (m *model) invalidate(id api.Hash) api.Errno {
	i := m.find(id)
	if i < 0 {
		return api.ErrNone
	}
	if i == 0 {
		return api.ErrArg
	}
	m.mark(i)
	return 0
}
