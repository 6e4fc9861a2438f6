package valid

import (
	"math/bits"

	"bedrock/api"
	"bedrock/tx"
)

// draft is a set as the transactions of a block ahead left it. The set itself stays as it is: a fault may come behind.
type draft struct {
	set     *Coins
	height  int
	time    uint32
	changes map[api.Point]change
	counts  map[api.Hash]int // of each transaction how many coins more, or fewer, there are than in the set
	spent   []api.Coin       // those that the block did not make
	fees    amount
}

// change is how a point stands now.
type change struct {
	coin  api.Coin
	there bool
}

// add plays the next transaction.
func (d *draft) add(t api.Tx) api.Errno {
	if !tx.Final(t, d.height, d.time) {
		return api.ErrFinal
	}
	id, _ := tx.ID(t) // it has one: the block was checked
	if d.set.counts[id]+d.counts[id] > 0 {
		return api.ErrAgain
	}
	base := tx.Base(t)
	if !base {
		if e := d.pay(t); e != api.OK {
			return e
		}
	}
	for i, p := range tx.Pairs(id, t) {
		d.changes[p] = change{api.Coin{Out: t.Outs[i], Height: d.height, Coinbase: base}, true}
		d.counts[id]++
	}
	return api.OK
}

// pay spends what a transaction's inputs have, of which its fee is what its outputs leave.
func (d *draft) pay(t api.Tx) api.Errno {
	var has amount
	for _, in := range t.Ins {
		value, e := d.spend(in)
		if e != api.OK {
			return e
		}
		has, d.fees = has.plus(value), d.fees.plus(value)
	}
	paid, _ := tx.Paid(t)
	if has.below(paid) {
		return api.ErrFunds
	}
	d.fees = d.fees.minus(paid)
	return api.OK
}

// spend takes away the coin that an input spends, and tells its value.
func (d *draft) spend(in api.In) (uint64, api.Errno) {
	now, touched := d.changes[in.Point]
	if !touched {
		now.coin, now.there = d.set.Get(in.Point)
	}
	if !now.there {
		return 0, api.ErrSpent
	}
	if now.coin.Coinbase && d.height < now.coin.Height+api.Maturity {
		return 0, api.ErrYoung
	}
	if !tx.Opens(now.coin.Out.Lock, in.Key) {
		return 0, api.ErrLocked
	}
	if !touched { // what is there and was touched is what the block made
		d.spent = append(d.spent, now.coin)
	}
	d.changes[in.Point] = change{}
	d.counts[in.Point.Tx]--
	return now.coin.Out.Value, api.OK
}

// amount is values together: an undo may have brought back coins that have more than 64 bits hold.
type amount struct{ high, low uint64 }

func (a amount) plus(n uint64) amount {
	low, carry := bits.Add64(a.low, n, 0)
	return amount{a.high + carry, low}
}

func (a amount) minus(n uint64) amount {
	low, borrow := bits.Sub64(a.low, n, 0)
	return amount{a.high - borrow, low}
}

func (a amount) below(n uint64) bool { return a.high == 0 && a.low < n }
