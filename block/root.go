package block

import (
	"bedrock/api"
	"bedrock/merkle"
	"bedrock/tx"
)

// Root is the root of transactions, and whether their list is mutated.
func Root(txs ...api.Tx) (api.Hash, bool) {
	ids := make([]api.Hash, 0, len(txs))
	for _, t := range txs {
		id, _ := tx.ID(t) // zeros, if it has none
		ids = append(ids, id)
	}
	return merkle.Root(ids)
}

// Whole tells whether a block has transactions, and these are the ones, and the only ones, that its header's root stands for.
func Whole(b api.Block) bool {
	root, mutated := Root(b.Txs...)
	return len(b.Txs) > 0 && root == b.Header.Root && !mutated
}
