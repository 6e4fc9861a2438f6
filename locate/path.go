package locate

import (
	"slices"

	"bedrock/api"
	"bedrock/tree"
)

// Path is the blocks to be undone on the way from one block to another one, falling, and those to be connected, rising.
func Path(t *tree.Tree, from, to api.Hash) ([]api.Hash, []api.Hash, api.Errno) {
	fork, there := t.Fork(from, to)
	if !there {
		return nil, nil, api.ErrNone
	}
	connect := fall(t, to, fork)
	slices.Reverse(connect)
	return fall(t, from, fork), connect, api.OK
}

// fall is the ids from a block down to the one that stands next on an ancestor of it.
func fall(t *tree.Tree, id, ancestor api.Hash) []api.Hash {
	var l []api.Hash
	for id != ancestor {
		l = append(l, id)
		n, _ := t.Get(id)
		id = n.Header.Prev
	}
	return l
}

// Missing is the blocks to be connected on the way from one block to another one of which has answers false, at most most of them. A has that panics can't be asked, as none can.
func Missing(t *tree.Tree, from, to api.Hash, most int, has func(id api.Hash) bool) (missing []api.Hash, e api.Errno) {
	_, connect, e := Path(t, from, to)
	if e != api.OK {
		return nil, e
	}
	if most < 0 || has == nil {
		return nil, api.ErrArg
	}
	defer func() {
		if recover() != nil {
			missing, e = nil, api.ErrArg
		}
	}()
	for _, id := range connect {
		if len(missing) == most {
			break
		}
		if !has(id) {
			missing = append(missing, id)
		}
	}
	return missing, api.OK
}
