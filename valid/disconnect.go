package valid

import (
	"bedrock/api"
	"bedrock/block"
	"bedrock/tx"
)

// Disconnect undoes the block that was connected last.
func (c *Coins) Disconnect(b api.Block, u api.Undo, height int) api.Errno {
	if c == nil {
		return api.ErrArg
	}
	if c.height == 0 || c.height != height || c.tip != block.ID(b.Header) {
		return api.ErrTip
	}
	left, ok := traceOf(b, height)
	if !ok || !c.hasAll(left.made) || !c.mayBack(left.spent, u.Spent) {
		return api.ErrUndo
	}
	for p := range left.made {
		c.take(p)
	}
	for i, p := range left.spent {
		c.put(p, u.Spent[i])
	}
	c.tip, c.height = b.Header.Prev, height-1
	return api.OK
}

// hasAll tells whether all these coins are there.
func (c *Coins) hasAll(coins map[api.Point]api.Coin) bool {
	for p, coin := range coins {
		if now, there := c.coins[p]; !there || now != coin {
			return false
		}
	}
	return true
}

// mayBack tells whether coins may come back to these points, at which they stood ahead of the tip.
func (c *Coins) mayBack(points []api.Point, coins []api.Coin) bool {
	if len(points) != len(coins) {
		return false
	}
	seen := map[api.Point]struct{}{}
	for i, p := range points {
		_, there := c.coins[p]
		_, twice := seen[p]
		if there || twice || coins[i].Height < 0 || coins[i].Height >= c.height {
			return false
		}
		seen[p] = struct{}{}
	}
	return true
}

// trace is what a block leaves in a set.
type trace struct {
	made  map[api.Point]api.Coin // those of its outputs that it does not spend itself
	spent []api.Point            // those of its inputs that spend what it did not make ahead of them
}

// traceOf is what a block of a height leaves, and false if it has an output of a transaction without an id, which is in no set.
func traceOf(b api.Block, height int) (trace, bool) {
	left := trace{made: map[api.Point]api.Coin{}}
	for _, t := range b.Txs {
		base := tx.Base(t)
		if !base {
			left.spend(tx.Points(t))
		}
		id, e := tx.ID(t)
		if e != api.OK && len(t.Outs) > 0 {
			return trace{}, false
		}
		for i, p := range tx.Pairs(id, t) {
			left.made[p] = api.Coin{Out: t.Outs[i], Height: height, Coinbase: base}
		}
	}
	return left, true
}

// spend takes away what the block made; what it did not is spent of the set.
func (x *trace) spend(points []api.Point) {
	for _, p := range points {
		if _, own := x.made[p]; own {
			delete(x.made, p)
		} else {
			x.spent = append(x.spent, p)
		}
	}
}
