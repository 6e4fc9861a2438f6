// Package valid is layer 16: the rules of blocks, and the outputs that are unspent: blocks are connected to the set of these and undone, and the set is told. See shared/doc/16-valid.md.
package valid

import (
	"maps"
	"slices"

	"bedrock/api"
	"bedrock/block"
	"bedrock/tx"
)

// Coins is the outputs that are unspent behind a block, the tip.
type Coins struct {
	tip    api.Hash
	height int
	coins  map[api.Point]api.Coin
	counts map[api.Hash]int // of each transaction that has any, how many coins are there
}

// NewCoins is the set behind genesis, of which nothing can be spent.
func NewCoins() *Coins { return noCoins(block.ID(block.Genesis().Header), 0) }

// noCoins is a set without coins behind a tip.
func noCoins(tip api.Hash, height int) *Coins {
	return &Coins{tip: tip, height: height, coins: map[api.Point]api.Coin{}, counts: map[api.Hash]int{}}
}

// Get is the coin at a point.
func (c *Coins) Get(p api.Point) (api.Coin, bool) {
	if c == nil {
		return api.Coin{}, false
	}
	coin, there := c.coins[p]
	return coin, there
}

// Tip is the id and the height of the block that was connected last.
func (c *Coins) Tip() (api.Hash, int) {
	if c == nil {
		return api.Hash{}, 0
	}
	return c.tip, c.height
}

// Len is how many coins there are.
func (c *Coins) Len() int {
	if c == nil {
		return 0
	}
	return len(c.coins)
}

// Total is the values of all coins together.
func (c *Coins) Total() uint64 {
	if c == nil {
		return 0
	}
	var all uint64
	for _, coin := range c.coins {
		all += coin.Out.Value
	}
	return all
}

// All is the points of all coins, in order.
func (c *Coins) All() []api.Point {
	if c == nil {
		return nil
	}
	return slices.SortedFunc(maps.Keys(c.coins), comparePoints)
}

func comparePoints(a, b api.Point) int {
	if tx.Less(a, b) {
		return -1
	}
	if tx.Less(b, a) {
		return 1
	}
	return 0
}

// Clone is the same set, that goes its own way.
func (c *Coins) Clone() *Coins {
	if c == nil {
		return nil
	}
	return &Coins{tip: c.tip, height: c.height, coins: maps.Clone(c.coins), counts: maps.Clone(c.counts)}
}

// put puts a coin at a point at which none is.
func (c *Coins) put(p api.Point, coin api.Coin) {
	c.coins[p] = coin
	c.counts[p.Tx]++
}

// take takes away the coin at a point, if there is one.
func (c *Coins) take(p api.Point) {
	if _, there := c.coins[p]; !there {
		return
	}
	delete(c.coins, p)
	c.counts[p.Tx]--
	if c.counts[p.Tx] == 0 {
		delete(c.counts, p.Tx)
	}
}
