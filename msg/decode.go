package msg

import (
	"bedrock/api"
	"bedrock/num"
)

const (
	ipLong    = 16 // bytes of an address's IP
	shortLong = 6  // bytes of a short id
)

// Decode is the message of a payload, or the place of the first fault.
func Decode(kind int, payload string) (api.Msg, int, api.Errno) {
	if Command(kind) == "" {
		return api.Msg{}, 0, api.ErrKind
	}
	if len(payload) > api.MaxPayload {
		return api.Msg{}, 0, api.ErrLong
	}
	p := parts{Reader: num.NewReader(payload), all: payload}
	m := p.message(kind)
	if e := p.End(); e != api.OK {
		return api.Msg{}, p.At(), e
	}
	return m, 0, api.OK
}

// parts goes along a payload. A part that is refused is never taken, so that with an error it stands where the fault begins.
type parts struct {
	*num.Reader
	all string
}

// message takes what the kind names.
func (p parts) message(kind int) api.Msg {
	m := Bare(kind)
	switch kind {
	case api.MsgVersion:
		p.version(&m)
	case api.MsgPing, api.MsgPong:
		m.Nonce = p.U64()
	case api.MsgAddr:
		m.Addrs = takeList(p, api.MaxAddrs, p.address)
	case api.MsgInv, api.MsgGetdata, api.MsgNotfound:
		m.Items = takeList(p, api.MaxInv, p.item)
	case api.MsgGetheaders:
		m.Version = p.U32()
		m.Hashes = takeList(p, api.MaxLocator, p.Hash)
		m.Stop = p.Hash()
	case api.MsgHeaders:
		m.Heads = takeList(p, api.MaxHeaders, p.head)
	case api.MsgTx, api.MsgBlock:
		m.Raw = p.Bytes(p.Left())
	case api.MsgSendcmpct:
		m.High = p.Bool()
		m.Nonce = p.U64()
	case api.MsgCmpctblock:
		p.compact(&m)
	case api.MsgGetblocktxn:
		m.Hash = p.Hash()
		ahead := noPlace
		m.Places = takeList(p, api.MaxInv, func() int {
			ahead = p.place(ahead)
			return ahead
		})
	case api.MsgBlocktxn:
		m.Hash = p.Hash()
		m.Raws = takeList(p, api.MaxInv, p.raw)
	}
	return m
}

// version takes what a version has.
func (p parts) version(m *api.Msg) {
	m.Version = p.U32()
	m.Services = p.U64()
	m.Time = int64(p.U64())
	m.To = p.net()
	m.From = p.net()
	m.Nonce = p.U64()
	m.Agent = p.text(api.MaxAgent)
	m.Height = p.U32()
	m.Relay = p.Bool()
}

// compact takes what a compact block has.
func (p parts) compact(m *api.Msg) {
	m.Head = p.Bytes(api.HeaderBytes)
	m.Nonce = p.U64()
	m.Shorts = takeList(p, api.MaxInv, p.short)
	ahead := noPlace
	m.Filled = takeList(p, api.MaxInv, func() api.Filled {
		ahead = p.place(ahead)
		return api.Filled{Place: ahead, Raw: p.raw()}
	})
}

// net takes an address without a time.
func (p parts) net() api.Net {
	var n api.Net
	n.Services = p.U64()
	copy(n.IP[:], p.Bytes(ipLong))
	n.Port = p.Big16()
	return n
}

// address takes an address with its time ahead.
func (p parts) address() api.Net {
	time := p.U32()
	n := p.net()
	n.Time = time
	return n
}

// item takes a thing of an inv.
func (p parts) item() api.Item {
	kind := p.U32()
	return api.Item{Kind: kind, Hash: p.Hash()}
}

// head takes a header, and the count behind it: how many transactions follow, which is always none.
func (p parts) head() string {
	head := p.Bytes(api.HeaderBytes)
	if n, _, _ := num.TakeCount(p.all, p.At()); n != 0 {
		p.Fail(api.ErrForm)
	}
	p.Count(0)
	return head
}

// short takes a short id: one number, though a reader has none of six bytes.
func (p parts) short() uint64 {
	return num.NewReader(p.Bytes(shortLong) + "\x00\x00").U64()
}

// raw takes the bytes of a transaction.
func (p parts) raw() string { return p.text(api.MaxTx) }

// text takes a count of at most most, and so many bytes: two parts, so that the count stays taken where the bytes are cut; a reader's String gives it back.
func (p parts) text(most uint64) string { return p.Bytes(int(p.Count(most))) }

// place takes the place that comes behind the one ahead.
func (p parts) place(ahead int) int {
	gap, _, e := num.TakeCount(p.all, p.At())
	if e == api.OK && gap >= uint64(mostPlace-ahead) {
		p.Fail(api.ErrMore)
	}
	return ahead + 1 + int(p.Count(mostPlace))
}

// takeList takes a count of at most most, and so many elements, as far as they stand there.
func takeList[T any](p parts, most uint64, takeOne func() T) []T {
	var l []T
	for range p.Count(most) {
		if p.Err() != api.OK {
			return nil
		}
		l = append(l, takeOne())
	}
	return l
}
