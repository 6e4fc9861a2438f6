package chain

import (
	"slices"

	"bedrock/api"
	"bedrock/tree"
	"bedrock/valid"
)

// Tip is the tip's id and height.
func (c *Chain) Tip() (api.Hash, int) {
	if c == nil {
		return api.Hash{}, 0
	}
	return c.coins.Tip()
}

// Tree is a copy of the tree.
func (c *Chain) Tree() *tree.Tree {
	if c == nil {
		return nil
	}
	return c.tree.Clone()
}

// Coins is a copy of the coins.
func (c *Chain) Coins() *valid.Coins {
	if c == nil {
		return nil
	}
	return c.coins.Clone()
}

// Body is a block whose body is there.
func (c *Chain) Body(id api.Hash) (api.Block, bool) {
	if c == nil {
		return api.Block{}, false
	}
	b, there := c.bodies[id]
	return copyBlock(b), there
}

// Has tells whether a block's body is there.
func (c *Chain) Has(id api.Hash) bool {
	if c == nil {
		return false
	}
	_, there := c.bodies[id]
	return there
}

// Active is the block of a height in the tip's chain.
func (c *Chain) Active(height int) (api.Hash, bool) {
	if c == nil {
		return api.Hash{}, false
	}
	tip, _ := c.coins.Tip()
	return c.tree.At(tip, height)
}

// Undo is what undoing a block takes that is connected.
func (c *Chain) Undo(id api.Hash) (api.Undo, bool) {
	if c == nil {
		return api.Undo{}, false
	}
	u, there := c.undos[id]
	return copyUndo(u), there
}

// Bodies is how many bodies there are.
func (c *Chain) Bodies() int {
	if c == nil {
		return 0
	}
	return len(c.bodies)
}

func copyBlock(b api.Block) api.Block {
	b.Txs = slices.Clone(b.Txs)
	for i, t := range b.Txs {
		b.Txs[i].Ins, b.Txs[i].Outs = slices.Clone(t.Ins), slices.Clone(t.Outs)
	}
	return b
}

func copyUndo(u api.Undo) api.Undo { return api.Undo{Spent: slices.Clone(u.Spent)} }
