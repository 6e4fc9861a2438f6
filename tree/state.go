package tree

import (
	"slices"

	"bedrock/api"
	"bedrock/wide"
)

// Body has a node's body there, and tells what became whole by that.
func (t *Tree) Body(id api.Hash) ([]api.Hash, api.Errno) {
	if t == nil {
		return nil, api.ErrArg
	}
	place, there := t.places[id]
	if !there {
		return nil, api.ErrNone
	}
	n := &t.nodes[place]
	if n.Body {
		return nil, api.ErrArg
	}
	n.Body = true
	if !t.nodes[n.parent].Whole {
		return nil, api.OK
	}
	whole := t.spread(place, func(kid *node) bool { return kid.Body })
	for _, place := range whole {
		t.turns++
		n := &t.nodes[place]
		n.Whole, n.Turn = true, t.turns
		t.weigh(place)
	}
	return t.ids(whole), api.OK
}

// Bad has a node be bad with all that stands on it, and tells what became bad by that.
func (t *Tree) Bad(id api.Hash) ([]api.Hash, api.Errno) {
	if t == nil {
		return nil, api.ErrArg
	}
	place, there := t.places[id]
	if !there {
		return nil, api.ErrNone
	}
	if place == 0 {
		return nil, api.ErrArg
	}
	if t.nodes[place].Bad {
		return nil, api.OK
	}
	bad := t.spread(place, func(kid *node) bool { return !kid.Bad })
	slices.Sort(bad)
	for _, place := range bad {
		t.nodes[place].Bad = true
	}
	t.weighAnew()
	return t.ids(bad), api.OK
}

// Best is the id of the whole one with the most work.
func (t *Tree) Best() api.Hash {
	if t.Len() == 0 {
		return api.Hash{}
	}
	return t.nodes[t.best].ID
}

// BestHeader is the id of the one with the most work, whole or not.
func (t *Tree) BestHeader() api.Hash {
	if t.Len() == 0 {
		return api.Hash{}
	}
	return t.nodes[t.bestHeader].ID
}

// Better tells whether both may be the best, and the first one is the better of them.
func (t *Tree) Better(a, b api.Hash) bool {
	first, there := t.find(a)
	if !there {
		return false
	}
	second, there := t.find(b)
	if !there {
		return false
	}
	x, y := &t.nodes[first], &t.nodes[second]
	return x.mayBeBest() && y.mayBeBest() && x.better(y)
}

// spread is the places of a node and, one behind the other, of those that join it and stand next on one that is told: on the first one ahead of those on the second one, by Order.
func (t *Tree) spread(from int, joins func(kid *node) bool) []int {
	told := []int{from}
	for next := 0; next < len(told); next++ {
		for _, kid := range t.kids(told[next]) {
			if joins(&t.nodes[kid]) {
				told = append(told, kid)
			}
		}
	}
	return told
}

// weigh holds a node against the best ones, of which it may be one now.
func (t *Tree) weigh(place int) {
	n := &t.nodes[place]
	if n.mayBeBest() && n.better(&t.nodes[t.best]) {
		t.best = place
	}
	if !n.Bad && n.leads(&t.nodes[t.bestHeader]) {
		t.bestHeader = place
	}
}

// weighAnew finds the best ones again, if one of them became bad. Genesis never does, so there is always one.
func (t *Tree) weighAnew() {
	if !t.nodes[t.best].Bad && !t.nodes[t.bestHeader].Bad {
		return
	}
	t.best, t.bestHeader = 0, 0
	for place := range t.nodes {
		t.weigh(place)
	}
}

// mayBeBest tells whether a node is whole and not bad.
func (n *node) mayBeBest() bool { return n.Whole && !n.Bad }

// better tells whether a whole node has more work than another one, or as much and became whole ahead of it.
func (n *node) better(other *node) bool {
	more := wide.Compare(n.Work, other.Work)
	return more > 0 || more == 0 && n.Turn < other.Turn
}

// leads tells whether a node has more work than another one, or as much and came ahead of it.
func (n *node) leads(other *node) bool {
	more := wide.Compare(n.Work, other.Work)
	return more > 0 || more == 0 && n.Order < other.Order
}
