package chain

import (
	"bedrock/api"
	"bedrock/valid"
)

// Set lays the tip, the coins behind it, and what undoing the blocks of its chain takes.
func (c *Chain) Set(tip api.Hash, coins *valid.Coins, undo map[api.Hash]api.Undo) api.Errno {
	if c == nil {
		return api.ErrArg
	}
	if !c.isTip(tip, coins) {
		return api.ErrState
	}
	undos := map[api.Hash]api.Undo{}
	for _, id := range c.tree.Chain(tip)[1:] { // nothing undoes genesis
		u, there := undo[id]
		n, _ := c.tree.Get(id)
		if !there || !n.Body || n.Bad {
			return api.ErrState
		}
		undos[id] = copyUndo(u)
	}
	c.coins, c.undos = coins.Clone(), undos
	return api.OK
}

// isTip tells whether a block is in the tree, and coins are those behind a block with its id and height.
func (c *Chain) isTip(tip api.Hash, coins *valid.Coins) bool {
	n, there := c.tree.Get(tip)
	id, height := coins.Tip()
	return coins != nil && there && id == tip && height == n.Height
}
