package valid

import (
	"math"

	"bedrock/api"
	"bedrock/num"
	"bedrock/sha"
	"bedrock/tx"
)

// Bytes is a set as bytes: its tip, and its coins in the order of their points.
func (c *Coins) Bytes() string {
	if c == nil {
		return ""
	}
	w := num.NewWriter()
	w.Hash(c.tip)
	w.U32(uint32(c.height))
	points := c.All()
	w.Count(uint64(len(points)))
	for _, p := range points {
		w.Hash(p.Tx)
		w.U32(p.Index)
		putCoin(w, c.coins[p])
	}
	return w.Text()
}

// Sum is the digest of a set's bytes.
func (c *Coins) Sum() api.Hash { return sha.Twice(c.Bytes()) }

// Of is the set whose bytes these are.
func Of(s string) (*Coins, api.Errno) {
	r := num.NewReader(s)
	tip := r.Hash()
	height := takeMost(r, uint64(r.U32()), math.MaxInt32, api.ErrMore)
	c := noCoins(tip, int(height))
	var last api.Point
	for i := range r.Count(math.MaxUint64) {
		p := takePoint(r)
		if i > 0 && !tx.Less(last, p) {
			r.Fail(api.ErrForm)
		}
		coin := takeCoin(r, height, api.ErrForm, api.MaxMoney)
		if r.Err() != api.OK { // the count may be far above what stands there
			break
		}
		c.put(p, coin)
		last = p
	}
	if e := r.End(); e != api.OK {
		return nil, e
	}
	return c, api.OK
}

func takePoint(r *num.Reader) api.Point {
	var p api.Point
	p.Tx = r.Hash()
	p.Index = r.U32()
	return p
}

// putCoin puts a coin's bytes, which are the same in a set and in an undo.
func putCoin(w *num.Writer, coin api.Coin) {
	w.U32(uint32(coin.Height))
	w.Bool(coin.Coinbase)
	w.U64(coin.Out.Value)
	w.String(coin.Out.Lock)
}

// takeCoin takes a coin, of the greatest height and value that it may have; tall is the error of one that is higher.
func takeCoin(r *num.Reader, height uint64, tall api.Errno, value uint64) api.Coin {
	var coin api.Coin
	coin.Height = int(takeMost(r, uint64(r.U32()), height, tall))
	coin.Coinbase = r.Bool()
	coin.Out.Value = takeMost(r, r.U64(), value, api.ErrMore)
	coin.Out.Lock = r.String(api.MaxScript)
	return coin
}

// takeMost is a number that the reader took, which fails if that is above the most.
func takeMost(r *num.Reader, n, most uint64, above api.Errno) uint64 {
	if n > most {
		r.Fail(above)
	}
	return n
}
