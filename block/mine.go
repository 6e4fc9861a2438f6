package block

import (
	"slices"

	"bedrock/api"
	"bedrock/num"
	"bedrock/sha"
	"bedrock/target"
)

const (
	nonceAt      = api.HeaderBytes - 4 // where the nonce stands in a header's bytes
	behindNonces = 1 << 32             // the number behind the last nonce
)

// Mine looks for the least nonce, from the header's own on, with which it meets its target.
func Mine(h api.Header, tries uint64) (api.Header, bool) {
	if _, e := target.Expand(h.Bits); e != api.OK {
		return h, false // no id meets such bits: what 2^32 tries would tell is known without them
	}
	front := sha.New()
	front.Write(Head(h)[:nonceAt]) // it is the same in all tries: it is summed once
	mined := h
	behind := min(uint64(h.Nonce)+min(tries, api.MaxTries), behindNonces)
	for nonce := uint64(h.Nonce); nonce < behind; nonce++ {
		mined.Nonce = uint32(nonce)
		if target.Meets(idBehind(front, mined.Nonce), h.Bits) {
			return mined, true
		}
	}
	return h, false
}

// idBehind is the id of a header of which all but the nonce is summed.
func idBehind(front *sha.Hasher, nonce uint32) api.Hash {
	w := num.NewWriter()
	w.U32(nonce)
	whole := front.Clone()
	whole.Write(w.Text())
	once := whole.Sum()
	return sha.Sum(string(once[:]))
}

// Build is a block of transactions on another one, mined.
func Build(prev api.Hash, time, bits uint32, txs ...api.Tx) (api.Block, api.Errno) {
	root, _ := Root(txs...)
	h := api.Header{Version: version, Prev: prev, Root: root, Time: time, Bits: bits}
	if _, e := Encode(api.Block{Header: h, Txs: txs}); e != api.OK {
		return api.Block{}, e
	}
	mined, found := Mine(h, api.MaxTries)
	if !found {
		return api.Block{}, api.ErrMined
	}
	return api.Block{Header: mined, Txs: cloneTxs(txs)}, api.OK
}

// cloneTxs is the same transactions in memory of their own.
func cloneTxs(txs []api.Tx) []api.Tx {
	clones := slices.Clone(txs)
	for i, t := range clones {
		clones[i].Ins, clones[i].Outs = slices.Clone(t.Ins), slices.Clone(t.Outs)
	}
	return clones
}

// Genesis is the first block.
func Genesis() api.Block {
	base, _ := Coinbase(0, "bedrock", api.Out{Value: api.Subsidy})
	b, _ := Build(api.Hash{}, api.GenesisTime, api.LimitBits, base)
	return b
}
