package valid

import (
	"math"

	"bedrock/api"
	"bedrock/num"
)

// Encode is an undo's bytes.
func Encode(u api.Undo) (string, api.Errno) {
	if len(u.Spent) > api.MaxBlock {
		return "", api.ErrMany
	}
	w := num.NewWriter()
	w.Count(uint64(len(u.Spent)))
	for _, coin := range u.Spent {
		if len(coin.Out.Lock) > api.MaxScript {
			return "", api.ErrScript
		}
		if coin.Height < 0 || coin.Height > math.MaxInt32 {
			return "", api.ErrArg
		}
		putCoin(w, coin)
	}
	return w.Text(), api.OK
}

// Decode is the undo whose bytes these are.
func Decode(s string) (api.Undo, api.Errno) {
	r := num.NewReader(s)
	var u api.Undo
	for range r.Count(api.MaxBlock) {
		u.Spent = append(u.Spent, takeCoin(r, math.MaxInt32, api.ErrMore, math.MaxUint64))
		if r.Err() != api.OK { // the count alone is no reason to make room
			break
		}
	}
	if e := r.End(); e != api.OK {
		return api.Undo{}, e
	}
	return u, api.OK
}
