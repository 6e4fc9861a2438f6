package addr

import (
	"bedrock/api"
	"bedrock/num"
)

const mostKept = (api.NewBuckets + api.TriedBuckets) * api.Room

// Encode is a book's bytes.
func (b *Book) Encode() string {
	all := b.All()
	w := num.NewWriter()
	w.U32(uint32(len(all)))
	for _, known := range all {
		putNet(w, known.Net)
		putNet(w, known.Source)
		w.U32(known.Last)
		w.U32(known.Tried)
		w.U32(uint32(known.Fails))
		w.Bool(known.InTried)
	}
	return w.Text()
}

func putNet(w *num.Writer, a api.Net) {
	w.U32(a.Time)
	w.U64(a.Services)
	putName(w, a)
}

// Decode is the book of bytes.
func Decode(secret api.Keys, s string) (*Book, int, api.Errno) {
	b := New(secret)
	r := num.NewReader(s)
	many := r.U32()
	if many > mostKept {
		return nil, 0, api.ErrMore
	}
	for range many {
		known, at, e := takeKnown(r)
		if e != api.OK {
			return nil, at, e
		}
		b.settle(known)
	}
	if e := r.End(); e != api.OK {
		return nil, r.At(), e
	}
	return b, 0, api.OK
}

// settle puts an address where it belongs, if nothing stands there, and it is not kept.
func (b *Book) settle(known api.Known) {
	s := b.seat(known.Net, known.Source, known.InTried)
	if b.find(known.Net) == nil && !isHeld(*b.at(s)) {
		b.put(s, known)
	}
}

// takeKnown is what is kept of the next address; with an error, the place at which the part begins that is wrong.
func takeKnown(r *num.Reader) (api.Known, int, api.Errno) {
	a, at, e := takeNet(r)
	if e != api.OK {
		return api.Known{}, at, e
	}
	source, at, e := takeNet(r)
	if e != api.OK {
		return api.Known{}, at, e
	}
	known := api.Known{Net: a, Source: source, Last: r.U32(), Tried: r.U32()}
	at = r.At()
	fails := r.U32()
	if fails > mostFails {
		return api.Known{}, at, api.ErrMore
	}
	known.Fails = int(fails)
	known.InTried = r.Bool()
	return known, r.At(), r.Err()
}

// takeNet is the next address; one that may not be is wrong from its time on.
func takeNet(r *num.Reader) (api.Net, int, api.Errno) {
	start := r.At()
	a := api.Net{Time: r.U32(), Services: r.U64()}
	copy(a.IP[:], r.Bytes(len(a.IP)))
	a.Port = r.Big16()
	if e := r.Err(); e != api.OK {
		return api.Net{}, r.At(), e
	}
	if !Is(a) {
		return api.Net{}, start, api.ErrAddr
	}
	return a, r.At(), api.OK
}
