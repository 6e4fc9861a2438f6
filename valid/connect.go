package valid

import (
	"bedrock/api"
	"bedrock/block"
	"bedrock/tx"
)

// Connect connects a block to the tip, and tells what undoing it takes.
func (c *Coins) Connect(b api.Block, height int) (api.Undo, api.Errno) {
	d, _, e := c.play(b, height)
	if e != api.OK {
		return api.Undo{}, e
	}
	for p, now := range d.changes {
		c.take(p)
		if now.there {
			c.put(p, now.coin)
		}
	}
	c.tip, c.height = block.ID(b.Header), height
	return api.Undo{Spent: d.spent}, api.OK
}

// Would is the fees of a block that may be connected; else the place of the transaction at which it may not, and why.
func (c *Coins) Would(b api.Block, height int) (uint64, int, api.Errno) {
	d, place, e := c.play(b, height)
	if e != api.OK {
		return 0, place, e
	}
	return d.fees.low, 0, api.OK
}

// play is what a block that may be connected would change; else the place of the transaction at which it may not, and why.
func (c *Coins) play(b api.Block, height int) (*draft, int, api.Errno) {
	if e := c.mayStand(b, height); e != api.OK {
		return nil, 0, e
	}
	d := &draft{
		set:     c,
		height:  height,
		time:    b.Header.Time,
		changes: map[api.Point]change{},
		counts:  map[api.Hash]int{},
	}
	for i, t := range b.Txs {
		if e := d.add(t); e != api.OK {
			return nil, i, e
		}
	}
	paid, _ := tx.Paid(b.Txs[0])
	if d.fees.plus(block.Reward(height)).below(paid) {
		return nil, 0, api.ErrPaid
	}
	return d, 0, api.OK
}

// mayStand is why a block may not stand on the tip at a height, whatever its transactions spend, or OK.
func (c *Coins) mayStand(b api.Block, height int) api.Errno {
	if c == nil {
		return api.ErrArg
	}
	if b.Header.Prev != c.tip || height != c.height+1 {
		return api.ErrTip
	}
	if e := Check(b); e != api.OK {
		return e
	}
	if told, ok := block.Height(b.Txs[0]); !ok || told != height {
		return api.ErrHeight
	}
	return api.OK
}
