package tx

import (
	"bedrock/api"
	"bedrock/num"
)

// Decode is the transaction whose bytes these are.
func Decode(s string) (api.Tx, api.Errno) {
	t, behind, e := Take(s, 0)
	if e == api.OK && behind < len(s) {
		e = api.ErrMore
	}
	if e != api.OK {
		return api.Tx{}, e
	}
	return t, api.OK
}

// Take is the transaction whose bytes begin at a place, and the place behind them.
func Take(s string, at int) (api.Tx, int, api.Errno) {
	if at < 0 || at > len(s) {
		return api.Tx{}, 0, api.ErrArg
	}
	p := parts{all: s[at:], reader: num.NewReader(s[at:])}
	t := p.transaction()
	if e := p.reader.Err(); e != api.OK {
		return api.Tx{}, 0, e
	}
	return t, at + p.reader.At(), api.OK
}

// parts goes along a transaction's bytes. The reader keeps the first error, and answers zeros behind it.
type parts struct {
	all    string
	reader *num.Reader
}

func (p parts) transaction() api.Tx {
	var t api.Tx
	t.Version = p.number()
	t.Ins = takeList(p, p.input)
	t.Outs = takeList(p, p.output)
	t.Time = p.number()
	return t
}

func (p parts) input() api.In {
	var in api.In
	in.Point.Tx = p.id()
	in.Point.Index = p.number()
	in.Key = p.script()
	in.Sequence = p.number()
	return in
}

func (p parts) output() api.Out {
	var out api.Out
	out.Value = p.value()
	out.Lock = p.script()
	return out
}

// takeList takes a count and so many elements, as far as they stand there: the count alone is no reason to make room for them.
func takeList[T any](p parts, takeOne func() T) []T {
	var l []T
	for range p.count(api.MaxTx, api.ErrMore) {
		if p.reader.Err() != api.OK {
			return nil
		}
		l = append(l, takeOne())
	}
	return l
}

func (p parts) number() uint32 {
	p.room(numberLong)
	return p.reader.U32()
}

func (p parts) value() uint64 {
	p.room(valueLong)
	return p.reader.U64()
}

func (p parts) id() api.Hash {
	var id api.Hash
	copy(id[:], p.bytes(idLong))
	return id
}

// script takes a key or a lock.
func (p parts) script() string { return p.bytes(p.count(api.MaxScript, api.ErrScript)) }

func (p parts) bytes(n int) string {
	p.room(n)
	return p.reader.Bytes(n)
}

// count takes a count. One that is above most is told first, even where it stands behind the bound; then the bound; what the reader finds comes last.
func (p parts) count(most uint64, above api.Errno) int {
	if n, _, _ := num.TakeCount(p.all, p.reader.At()); n > most {
		p.reader.Fail(above)
	}
	p.room(leastLong(p.all[p.reader.At():]))
	return int(p.reader.Count(most))
}

// leastLong is how many bytes the count at the front of a text needs, as far as its first byte tells it.
func leastLong(s string) int {
	if s == "" {
		return 1
	}
	switch s[0] {
	case 253:
		return 3
	case 254:
		return 5
	case 255:
		return 9
	}
	return 1
}

// room fails, if the bound of a transaction leaves no room for a part of n bytes.
func (p parts) room(n int) {
	if p.reader.At()+n > api.MaxTx {
		p.reader.Fail(api.ErrSize)
	}
}
