package block

import (
	"math"
	"slices"

	"bedrock/api"
	"bedrock/num"
	"bedrock/tx"
)

const (
	mostHeight   = math.MaxInt32
	mostExtra    = 96 // bytes of a coinbase's key behind the height
	lastSequence = 1<<32 - 1
)

// Coinbase is the coinbase of a block of a height.
func Coinbase(height int, extra string, outs ...api.Out) (api.Tx, api.Errno) {
	if height < 0 || height > mostHeight || len(extra) > mostExtra {
		return api.Tx{}, api.ErrArg
	}
	key := num.NewWriter()
	key.U32(uint32(height))
	key.Bytes(extra)
	in := api.In{Point: api.Point{Index: api.NullIndex}, Key: key.Text(), Sequence: lastSequence}
	return api.Tx{Version: version, Ins: []api.In{in}, Outs: slices.Clone(outs)}, api.OK
}

// Height is the height that a coinbase's key says.
func Height(t api.Tx) (int, bool) {
	if !IsCoinbase(t) {
		return 0, false
	}
	r := num.NewReader(t.Ins[0].Key)
	height := r.U32()
	if r.Err() != api.OK || height > mostHeight {
		return 0, false
	}
	return int(height), true
}

// IsCoinbase tells whether a transaction is a coinbase.
func IsCoinbase(t api.Tx) bool { return tx.Base(t) }

// Reward is what a block of a height makes.
func Reward(height int) uint64 {
	if height < 0 {
		return 0
	}
	return api.Subsidy >> (height / api.Halving)
}
