package valid

import (
	"slices"

	"bedrock/api"
	"bedrock/block"
	"bedrock/tx"
)

// Check is why a block may not be, whatever it stands on, or OK.
func Check(b api.Block) api.Errno {
	if block.Long(b) > api.MaxBlock {
		return api.ErrLong
	}
	if len(b.Txs) == 0 {
		return api.ErrNoTxs
	}
	root, mutated := block.Root(b.Txs...)
	if root != b.Header.Root {
		return api.ErrRoots
	}
	if mutated {
		return api.ErrMutated
	}
	if !block.IsCoinbase(b.Txs[0]) {
		return api.ErrFirst
	}
	if slices.ContainsFunc(b.Txs[1:], block.IsCoinbase) {
		return api.ErrBases
	}
	_, e := firstFault(b)
	return e
}

// Where is the place of the first of a block's transactions that may not be by itself, or -1.
func Where(b api.Block) int {
	place, _ := firstFault(b)
	return place
}

// firstFault is the place of the first transaction that may not be by itself, and why; -1 and OK, if all may be.
func firstFault(b api.Block) (int, api.Errno) {
	for i, t := range b.Txs {
		if e := tx.Check(t); e != api.OK {
			return i, e
		}
	}
	return -1, api.OK
}
