package merkle

import "bedrock/api"

// branchMost is how many ids a branch may have.
const branchMost = 32

// Branch is the ids with which one comes from a place of a list to its root.
func Branch(l []api.Hash, place int) ([]api.Hash, api.Errno) {
	if place < 0 || place >= len(l) {
		return nil, api.ErrPlace
	}
	branch := make([]api.Hash, 0, Depth(len(l)))
	for level := l; len(level) > 1; level = above(level) {
		branch = append(branch, level[mate(place, len(level))])
		place /= 2
	}
	return branch, api.OK
}

// Check is the id to which one comes from an id at a place, by a branch.
func Check(id api.Hash, place int, branch []api.Hash) (api.Hash, api.Errno) {
	if len(branch) > branchMost {
		return api.Hash{}, api.ErrMany
	}
	if place < 0 || place>>len(branch) != 0 {
		return api.Hash{}, api.ErrPlace
	}
	for _, other := range branch {
		if place%2 == 0 {
			id = Pair(id, other)
		} else {
			id = Pair(other, id)
		}
		place /= 2
	}
	return id, api.OK
}
