package tx

import (
	"bedrock/api"
	"bedrock/num"
)

const (
	idLong     = 32             // bytes of an id
	numberLong = 4              // bytes of a version, a place, a sequence, a time
	valueLong  = 8              // bytes of a value
	ends       = 2 * numberLong // bytes of what stands ahead of and behind the lists
)

// Encode is a transaction's bytes.
func Encode(t api.Tx) (string, api.Errno) {
	if e := mayBeTold(t); e != api.OK {
		return "", e
	}
	w := num.NewWriter()
	w.U32(t.Version)
	w.Count(uint64(len(t.Ins)))
	for _, in := range t.Ins {
		w.Hash(in.Point.Tx)
		w.U32(in.Point.Index)
		w.String(in.Key)
		w.U32(in.Sequence)
	}
	w.Count(uint64(len(t.Outs)))
	for _, out := range t.Outs {
		w.U64(out.Value)
		w.String(out.Lock)
	}
	w.U32(t.Time)
	return w.Text(), api.OK
}

// mayBeTold is why a transaction has no bytes that others take, or OK.
func mayBeTold(t api.Tx) api.Errno {
	for _, in := range t.Ins {
		if len(in.Key) > api.MaxScript {
			return api.ErrScript
		}
	}
	for _, out := range t.Outs {
		if len(out.Lock) > api.MaxScript {
			return api.ErrScript
		}
	}
	if Size(t) > api.MaxTx {
		return api.ErrSize
	}
	return api.OK
}

// Size is how many bytes a transaction has, also one that may not be told.
func Size(t api.Tx) int {
	n := ends + countLong(len(t.Ins)) + countLong(len(t.Outs))
	for _, in := range t.Ins {
		n += idLong + numberLong + textLong(in.Key) + numberLong
	}
	for _, out := range t.Outs {
		n += valueLong + textLong(out.Lock)
	}
	return n
}

// textLong is how many bytes a text has with its count.
func textLong(s string) int { return countLong(len(s)) + len(s) }

func countLong(n int) int { return num.CountLong(uint64(n)) }
