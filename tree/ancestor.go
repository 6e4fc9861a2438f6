package tree

import "bedrock/api"

// At is the id of a node's ancestor of a height.
func (t *Tree) At(id api.Hash, height int) (api.Hash, bool) {
	place, there := t.find(id)
	if !there || height < 0 || height > t.nodes[place].Height {
		return api.Hash{}, false
	}
	return t.nodes[t.ancestor(place, height)].ID, true
}

// Fork is the id of the last one on which two nodes stand, or that they are.
func (t *Tree) Fork(a, b api.Hash) (api.Hash, bool) {
	first, there := t.find(a)
	if !there {
		return api.Hash{}, false
	}
	second, there := t.find(b)
	if !there {
		return api.Hash{}, false
	}
	return t.nodes[t.fork(first, second)].ID, true
}

// Above tells whether the second one is the first one, or an ancestor of it.
func (t *Tree) Above(a, b api.Hash) bool {
	below, there := t.Get(b)
	if !there {
		return false
	}
	at, there := t.At(a, below.Height)
	return there && at == b
}

// Chain is the ids from genesis to a node.
func (t *Tree) Chain(id api.Hash) []api.Hash {
	place, there := t.find(id)
	if !there {
		return nil
	}
	chain := make([]api.Hash, t.nodes[place].Height+1)
	for height := len(chain) - 1; height >= 0; height-- {
		chain[height] = t.nodes[place].ID
		place = t.nodes[place].parent
	}
	return chain
}

// Skip is the height to which a node of a height skips.
func Skip(height int) int {
	if height < 2 {
		return 0
	}
	if height%2 == 0 {
		return withoutLowest(height)
	}
	return withoutLowest(withoutLowest(height-1)) + 1
}

// withoutLowest is a number with its lowest bit that is 1 made 0.
func withoutLowest(n int) int { return n & (n - 1) }

// ancestor is the place of a node's ancestor of a height that is not above its own.
func (t *Tree) ancestor(place, height int) int {
	for t.nodes[place].Height > height {
		n := &t.nodes[place]
		if t.nodes[n.skip].Height >= height {
			place = n.skip
		} else {
			place = n.parent
		}
	}
	return place
}

// fork is the place of the last one on which two nodes stand, or that they are.
func (t *Tree) fork(a, b int) int {
	height := min(t.nodes[a].Height, t.nodes[b].Height)
	a, b = t.ancestor(a, height), t.ancestor(b, height)
	for a != b {
		first, second := &t.nodes[a], &t.nodes[b]
		if first.skip != second.skip { // both skip to the same height, where the chains are still apart
			a, b = first.skip, second.skip
		} else {
			a, b = first.parent, second.parent
		}
	}
	return a
}
