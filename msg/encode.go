package msg

import (
	"slices"

	"bedrock/api"
	"bedrock/num"
)

const (
	mostShort = 1<<48 - 1 // the greatest short id
	mostPlace = 65535     // the greatest place
	noPlace   = -1        // stands ahead of the first place: that place itself is how far it is behind, less 1
)

// Encode is a message's payload.
func Encode(m api.Msg) (string, api.Errno) {
	if Command(m.Kind) == "" {
		return "", api.ErrKind
	}
	if hasMore(m) {
		return "", api.ErrMore
	}
	if !wellFormed(m) || !Same(unnamed(m), Bare(m.Kind)) {
		return "", api.ErrArg
	}
	w := num.NewWriter()
	put(w, m)
	if w.Len() > api.MaxPayload {
		return "", api.ErrLong
	}
	return w.Text(), api.OK
}

// hasMore tells whether something that the kind names is more than it may be.
func hasMore(m api.Msg) bool {
	switch m.Kind {
	case api.MsgVersion:
		return len(m.Agent) > api.MaxAgent
	case api.MsgAddr:
		return len(m.Addrs) > api.MaxAddrs
	case api.MsgInv, api.MsgGetdata, api.MsgNotfound:
		return len(m.Items) > api.MaxInv
	case api.MsgGetheaders:
		return len(m.Hashes) > api.MaxLocator
	case api.MsgHeaders:
		return len(m.Heads) > api.MaxHeaders
	case api.MsgCmpctblock:
		return len(m.Shorts) > api.MaxInv || len(m.Filled) > api.MaxInv ||
			slices.ContainsFunc(m.Filled, func(f api.Filled) bool { return len(f.Raw) > api.MaxTx })
	case api.MsgGetblocktxn:
		return len(m.Places) > api.MaxInv
	case api.MsgBlocktxn:
		return len(m.Raws) > api.MaxInv ||
			slices.ContainsFunc(m.Raws, func(raw string) bool { return len(raw) > api.MaxTx })
	}
	return false
}

// wellFormed tells whether what the kind names can stand in bytes as it is.
func wellFormed(m api.Msg) bool {
	switch m.Kind {
	case api.MsgHeaders:
		return !slices.ContainsFunc(m.Heads, func(head string) bool { return len(head) != api.HeaderBytes })
	case api.MsgCmpctblock:
		return len(m.Head) == api.HeaderBytes &&
			!slices.ContainsFunc(m.Shorts, func(short uint64) bool { return short > mostShort }) &&
			rise(placesOf(m.Filled))
	case api.MsgGetblocktxn:
		return rise(m.Places)
	}
	return true
}

// placesOf is the places of a compact block's transactions.
func placesOf(filled []api.Filled) []int {
	var places []int
	for _, f := range filled {
		places = append(places, f.Place)
	}
	return places
}

// rise tells whether places rise, none of them below 0 or above the greatest.
func rise(places []int) bool {
	ahead := noPlace
	for _, place := range places {
		if place <= ahead || place > mostPlace {
			return false
		}
		ahead = place
	}
	return true
}

// unnamed is a message without what its kind names: what is left of it may not be there.
func unnamed(m api.Msg) api.Msg {
	switch m.Kind {
	case api.MsgVersion:
		m.Version, m.Services, m.Time, m.Nonce = 0, 0, 0, 0
		m.To, m.From = api.Net{Time: m.To.Time}, api.Net{Time: m.From.Time}
		m.Agent, m.Height, m.Relay = "", 0, false
	case api.MsgPing, api.MsgPong:
		m.Nonce = 0
	case api.MsgAddr:
		m.Addrs = nil
	case api.MsgInv, api.MsgGetdata, api.MsgNotfound:
		m.Items = nil
	case api.MsgGetheaders:
		m.Version, m.Hashes, m.Stop = 0, nil, api.Hash{}
	case api.MsgHeaders:
		m.Heads = nil
	case api.MsgTx, api.MsgBlock:
		m.Raw = ""
	case api.MsgSendcmpct:
		m.High, m.Nonce = false, 0
	case api.MsgCmpctblock:
		m.Head, m.Nonce, m.Shorts, m.Filled = "", 0, nil, nil
	case api.MsgGetblocktxn:
		m.Hash, m.Places = api.Hash{}, nil
	case api.MsgBlocktxn:
		m.Hash, m.Raws = api.Hash{}, nil
	}
	return m
}

// put lays down what the kind names.
func put(w *num.Writer, m api.Msg) {
	switch m.Kind {
	case api.MsgVersion:
		putVersion(w, m)
	case api.MsgPing, api.MsgPong:
		w.U64(m.Nonce)
	case api.MsgAddr:
		putList(w, m.Addrs, func(n api.Net) {
			w.U32(n.Time)
			putNet(w, n)
		})
	case api.MsgInv, api.MsgGetdata, api.MsgNotfound:
		putList(w, m.Items, func(i api.Item) {
			w.U32(i.Kind)
			w.Hash(i.Hash)
		})
	case api.MsgGetheaders:
		w.U32(m.Version)
		putList(w, m.Hashes, w.Hash)
		w.Hash(m.Stop)
	case api.MsgHeaders:
		putList(w, m.Heads, func(head string) {
			w.Bytes(head)
			w.Count(0)
		})
	case api.MsgTx, api.MsgBlock:
		w.Bytes(m.Raw)
	case api.MsgSendcmpct:
		w.Bool(m.High)
		w.U64(m.Nonce)
	case api.MsgCmpctblock:
		putCompact(w, m)
	case api.MsgGetblocktxn:
		w.Hash(m.Hash)
		ahead := noPlace
		putList(w, m.Places, func(place int) { ahead = putPlace(w, ahead, place) })
	case api.MsgBlocktxn:
		w.Hash(m.Hash)
		putList(w, m.Raws, w.String)
	}
}

// putVersion lays down what a version has.
func putVersion(w *num.Writer, m api.Msg) {
	w.U32(m.Version)
	w.U64(m.Services)
	w.U64(uint64(m.Time))
	putNet(w, m.To)
	putNet(w, m.From)
	w.U64(m.Nonce)
	w.String(m.Agent)
	w.U32(m.Height)
	w.Bool(m.Relay)
}

// putCompact lays down what a compact block has.
func putCompact(w *num.Writer, m api.Msg) {
	w.Bytes(m.Head)
	w.U64(m.Nonce)
	putList(w, m.Shorts, func(short uint64) {
		w.U32(uint32(short))
		w.U16(uint16(short >> 32))
	})
	ahead := noPlace
	putList(w, m.Filled, func(f api.Filled) {
		ahead = putPlace(w, ahead, f.Place)
		w.String(f.Raw)
	})
}

// putNet lays down an address without its time, which not all of them have.
func putNet(w *num.Writer, n api.Net) {
	w.U64(n.Services)
	w.Bytes(string(n.IP[:]))
	w.Big16(n.Port)
}

// putPlace lays down how far a place is behind the one ahead, less 1, and answers the place, which is the one ahead of the next.
func putPlace(w *num.Writer, ahead, place int) int {
	w.Count(uint64(place - ahead - 1))
	return place
}

// putList lays down a count, and each element.
func putList[T any](w *num.Writer, l []T, putOne func(T)) {
	w.Count(uint64(len(l)))
	for _, x := range l {
		putOne(x)
	}
}
