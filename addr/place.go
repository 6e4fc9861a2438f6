package addr

import (
	"bedrock/api"
	"bedrock/num"
	"bedrock/sip"
)

const (
	sourceParts = 4 // new buckets among which the groups that one source's group tells are shared out
	nameParts   = 2 // tried buckets among which the addresses of one group are shared out
)

// seat is where an address stands, or is to stand.
type seat struct {
	tried         bool
	bucket, place int
}

// Is tells whether an address may be.
func Is(a api.Net) bool { return a.Port != 0 && a.IP != [16]byte{} }

// Name is an address's 18 bytes.
func Name(a api.Net) string {
	w := num.NewWriter()
	putName(w, a)
	return w.Text()
}

func putName(w *num.Writer, a api.Net) {
	w.Bytes(string(a.IP[:]))
	w.Big16(a.Port)
}

// group is the bytes that addresses near each other have in common.
func group(a api.Net) string { return string(a.IP[:2]) }

// Bucket is an address's bucket and place.
func (b *Book) Bucket(a, source api.Net, tried bool) (int, int) {
	if b == nil {
		return 0, 0
	}
	s := b.seat(a, source, tried)
	return s.bucket, s.place
}

// seat is where an address that was told by a source stands in a table.
func (b *Book) seat(a, source api.Net, tried bool) seat {
	s, table := seat{tried: tried}, "N"
	if tried {
		table = "T"
		s.bucket = b.draw("T"+group(a)+b.drawByte("t"+Name(a), nameParts), api.TriedBuckets)
	} else {
		s.bucket = b.draw("N"+group(source)+b.drawByte("n"+group(source)+group(a), sourceParts), api.NewBuckets)
	}
	s.place = b.draw("P"+table+oneByte(s.bucket)+Name(a), api.Room)
	return s
}

// draw is which of some parts the secret draws for bytes.
func (b *Book) draw(text string, parts int) int {
	part, _ := sip.Part(b.secret, text, parts) // it has no error of as few parts as there are here
	return part
}

func (b *Book) drawByte(text string, parts int) string { return oneByte(b.draw(text, parts)) }

func oneByte(n int) string { return string([]byte{byte(n)}) }

// at is a place of a table.
func (b *Book) at(s seat) *api.Known {
	if s.tried {
		return &b.tried[s.bucket][s.place]
	}
	return &b.fresh[s.bucket][s.place]
}

// isHeld tells whether an address stands in a place.
func isHeld(known api.Known) bool { return known != api.Known{} }

// put puts an address in a place; what was there is gone.
func (b *Book) put(s seat, known api.Known) {
	b.Drop(b.at(s).Net)
	known.InTried = s.tried
	*b.at(s) = known
	b.seats[identOf(known.Net)] = s
}

// find is what is kept of an address, nil if it is not kept.
func (b *Book) find(a api.Net) *api.Known {
	if b == nil {
		return nil
	}
	s, there := b.seats[identOf(a)]
	if !there {
		return nil
	}
	return b.at(s)
}

// mustFind is what is kept of an address, and why there is nothing, if so.
func (b *Book) mustFind(a api.Net) (*api.Known, api.Errno) {
	if b == nil {
		return nil, api.ErrArg
	}
	if !Is(a) {
		return nil, api.ErrAddr
	}
	known := b.find(a)
	if known == nil {
		return nil, api.ErrNone
	}
	return known, api.OK
}
