package addr

import (
	"math"
	"math/rand"
	"testing"

	"bedrock/api"
)

// refuses checks that Decode answers a place and an error, and no book.
func refuses(t *testing.T, s string, at int, e api.Errno) {
	t.Helper()
	b, place, wrong := Decode(api.Keys{K0: 4}, s)
	if b != nil || place != at || wrong != e {
		t.Fatalf("Decode of %d bytes: %v, %d, %d, not %d, %d", len(s), b, place, wrong, at, e)
	}
}

// parts is where the parts of a book's bytes begin.
func parts(many int) []int {
	l := []int{0}
	for i := range many {
		for _, at := range []int{0, 4, 12, 28, 30, 34, 42, 58, 60, 64, 68, 72} {
			l = append(l, 4+73*i+at)
		}
	}
	return append(l, 4+73*many)
}

// Promises 19.5, 19.6: Decode of Encode is the same book, under the same secret.
func TestDecodeEncode(t *testing.T) {
	for _, p := range somePairs(t) {
		b, at, e := Decode(p.m.secret, p.b.Encode())
		if at != 0 || e != api.OK {
			t.Fatal(at, e)
		}
		checkBook(t, b, p.m)
		for _, lot := range lotsFor(10) {
			checkAsks(t, b, p.m, clockNow+864001, lot, 7)
		}
		m := p.m.clone()
		for i := range 100 { // and it goes on as it would have
			bothAdd(t, b, m, net(uint16(i), 7), net(uint16(i), 8), clockNow+864001)
		}
		for _, known := range p.m.all() {
			bothGood(t, b, m, known.Net, clockNow+864001)
		}
		checkBook(t, b, m)
		checkBook(t, p.b, p.m)
	}
}

// Promise 19.5: what is kept as bytes, written out.
func TestEncode(t *testing.T) {
	a, source := net(0x0102, 0x0a0b0c0d), net(0x0304, 0x1a1b1c1d)
	a.Time, a.Services, a.Port = 0x04030201, 0x0807060504030201, 0x1122
	source.Time, source.Services, source.Port = 0x14131211, 0x1817161514131211, 0x3344
	want := "\x01\x00\x00\x00" +
		"\x01\x02\x03\x04\x01\x02\x03\x04\x05\x06\x07\x08\x01\x02\x00\x00\x00\x00\x00\x00\x00\x00\x00\x00\x0a\x0b\x0c\x0d\x11\x22" +
		"\x11\x12\x13\x14\x11\x12\x13\x14\x15\x16\x17\x18\x03\x04\x00\x00\x00\x00\x00\x00\x00\x00\x00\x00\x1a\x1b\x1c\x1d\x33\x44" +
		"\x21\x22\x23\x24\x31\x32\x33\x34\xe8\x03\x00\x00\x01"
	b := bookOf(t, api.Known{Net: a, Source: source, Last: 0x24232221, Tried: 0x34333231, Fails: 1000, InTried: true})
	if b.Encode() != want {
		t.Errorf("%x", b.Encode())
	}
	if got := New(api.Keys{}).Encode(); got != "\x00\x00\x00\x00" {
		t.Errorf("%x", got)
	}
}

// Promise 19.5: bytes that are cut are ErrCut where the first part begins that is not there; what is left behind is ErrMore.
func TestDecodeCut(t *testing.T) {
	for i, p := range somePairs(t) {
		s, many := p.b.Encode(), len(p.m.all())
		if i > 0 && many > 60 {
			continue // as the full one, which is the first
		}
		begins := parts(many)
		part := 0
		for long := range s {
			for part+1 < len(begins) && begins[part+1] <= long {
				part++
			}
			b, at, e := Decode(p.m.secret, s[:long])
			if b != nil || at != begins[part] || e != api.ErrCut {
				t.Fatalf("%d of %d: %d, %d, not %d", long, len(s), at, e, begins[part])
			}
		}
		for _, more := range []string{"\x00", "\x01", "\xff", s, wantRecord(api.Known{Net: net(1, 1), Source: net(1, 1)})} {
			b, at, e := Decode(p.m.secret, s+more)
			if b != nil || at != len(s) || e != api.ErrMore {
				t.Fatalf("and %d more: %d, %d", len(more), at, e)
			}
		}
	}
}

// goodKnown is something to be kept that has no fault.
func goodKnown(number uint32) api.Known {
	return api.Known{Net: net(uint16(number), number), Source: net(7, 7), Last: 5, Tried: 6, Fails: 2}
}

// fault is a change of a record's bytes, and where it is told.
type fault struct {
	at   int
	e    api.Errno
	does func(record []byte)
}

// faults is what can be wrong with a record but that it is cut, in its order.
func faults() []fault {
	clear := func(record []byte, from, to int) {
		for i := from; i < to; i++ {
			record[i] = 0
		}
	}
	return []fault{
		{0, 190, func(record []byte) { clear(record, 12, 28) }},
		{0, 190, func(record []byte) { clear(record, 28, 30) }},
		{0, 190, func(record []byte) { clear(record, 12, 30) }},
		{0, 190, func(record []byte) { clear(record, 0, 30) }},
		{30, 190, func(record []byte) { clear(record, 42, 58) }},
		{30, 190, func(record []byte) { clear(record, 58, 60) }},
		{30, 190, func(record []byte) { clear(record, 30, 60) }},
		{68, api.ErrMore, func(record []byte) { record[68], record[69] = 0xe9, 3 }},
		{68, api.ErrMore, func(record []byte) { record[70] = 1 }},
		{68, api.ErrMore, func(record []byte) { record[71] = 0x80 }},
		{72, api.ErrForm, func(record []byte) { record[72] = 2 }},
		{72, api.ErrForm, func(record []byte) { record[72] = 255 }},
	}
}

// Promise 19.5: each part that may not be is told where it begins; of two the first one.
func TestDecodeFaults(t *testing.T) {
	const many = 4
	for first := range many {
		for _, f := range faults() {
			for second := first; second < many; second++ {
				for _, g := range faults() {
					s := wantBytes()
					for i := range many {
						record := []byte(wantRecord(goodKnown(uint32(i + 1))))
						if i == second && (second > first || g.at >= f.at) {
							g.does(record)
						}
						if i == first {
							f.does(record)
						}
						s += string(record)
					}
					s = "\x04" + s[1:]
					begins := 4 + 73*first
					refuses(t, s, begins+f.at, f.e)
					refuses(t, s+"\x00", begins+f.at, f.e)
					refuses(t, s[:4+73*first+73], begins+f.at, f.e)
				}
			}
		}
	}
}

// Promise 19.5: a part that may not be is told ahead of one behind it that does not stand there, and one that does not stand there ahead of all that is behind it.
func TestDecodeFaultAndCut(t *testing.T) {
	begins := parts(1)
	for _, f := range faults() {
		record := []byte(wantRecord(goodKnown(1)))
		f.does(record)
		s := "\x01\x00\x00\x00" + string(record)
		ends := map[int]int{0: 34, 30: 64, 68: 76, 72: 77}[f.at]
		for long := 4; long < len(s); long++ {
			if long >= ends {
				refuses(t, s[:long], 4+f.at, f.e)
				continue
			}
			at := 0
			for _, begin := range begins {
				if begin <= long {
					at = begin
				}
			}
			refuses(t, s[:long], at, api.ErrCut)
		}
	}
}

// Promise 19.5: more than (NewBuckets + TriedBuckets) Room is ErrMore at the count, whatever is behind it.
func TestDecodeMany(t *testing.T) {
	l := []api.Known{}
	for i := range 192 {
		l = append(l, goodKnown(uint32(i+1)))
	}
	b, at, e := Decode(api.Keys{}, wantBytes(l...))
	if at != 0 || e != api.OK {
		t.Fatal(at, e)
	}
	checkBook(t, b, wantBook(api.Keys{}, l...))
	refuses(t, wantBytes(append(l, goodKnown(193))...), 0, api.ErrMore)
	for _, count := range []string{"\xc1\x00\x00\x00", "\x00\x01\x00\x00", "\x00\x00\x01\x00", "\x00\x00\x00\x01", "\xff\xff\xff\xff", "\x00\x00\x00\x80"} {
		refuses(t, count, 0, api.ErrMore)
		refuses(t, count+wantRecord(api.Known{}), 0, api.ErrMore)
	}
	refuses(t, "\xc0\x00\x00\x00", 4, api.ErrCut)
	refuses(t, "\x01\x00\x00\x00", 4, api.ErrCut)
	refuses(t, "\x00\x00\x00\x00\x00", 4, api.ErrMore)
	refuses(t, "", 0, api.ErrCut)
	refuses(t, "\xff\xff\xff", 0, api.ErrCut)
}

// Promise 19.5: Fails up to 1000 are kept, and all times and services as they are.
func TestDecodeEdges(t *testing.T) {
	for _, fails := range []int{0, 1, 255, 256, 999, 1000} {
		for _, time := range []uint32{0, 1, 255, 256, math.MaxUint32} {
			for _, inTried := range []bool{false, true} {
				known := api.Known{Net: net(1, 1), Source: net(2, 2), Last: time, Tried: time / 2, Fails: fails, InTried: inTried}
				known.Net.Time, known.Source.Time = time, time/3
				known.Net.Services, known.Source.Services = math.MaxUint64, uint64(time)<<32
				m := newModel(api.Keys{K0: 4})
				m.places[wantSpot(m.secret, known.Net, known.Source, inTried)] = known
				checkBook(t, bookOf(t, known), m)
			}
		}
	}
	known := api.Known{Net: net(1, 1), Source: net(2, 2), Fails: 1000}
	b := bookOf(t, known)
	b.Tried(known.Net, 5)
	if got, _ := b.Get(known.Net); got.Fails != 1000 {
		t.Error(got.Fails)
	}
}

// Promise 19.5: one that is kept already is left out, in the same table or the other one.
func TestDecodeTwice(t *testing.T) {
	for _, first := range []bool{false, true} {
		for _, second := range []bool{false, true} {
			a, b := goodKnown(1), goodKnown(1)
			a.InTried, b.InTried = first, second
			b.Net.Time, b.Net.Services, b.Source, b.Fails = 4000000000, 99, net(1000, 7), 0
			m := newModel(api.Keys{K0: 4})
			m.places[wantSpot(m.secret, a.Net, a.Source, first)] = a
			checkBook(t, bookOf(t, a, b), m)
			checkBook(t, bookOf(t, a, a, b, a), m)
		}
	}
}

// Promise 19.5: one whose place is taken is left out, of either table, terrible or not.
func TestDecodeTaken(t *testing.T) {
	secret := api.Keys{K0: 4}
	for _, inTried := range []bool{false, true} {
		a := goodKnown(1)
		a.InTried, a.Net.Time, a.Fails = inTried, 0, 1000
		m := newModel(secret)
		at := wantSpot(secret, a.Net, a.Source, inTried)
		m.places[at] = a
		found := 0
		for i := uint32(2); found < 5; i++ {
			other := goodKnown(i)
			other.InTried = inTried
			if wantSpot(secret, other.Net, other.Source, inTried) == at {
				found++
				checkBook(t, bookOf(t, a, other), m)
			}
		}
	}
}

// Promise 19.5: one that was left out takes no place from those behind it, and is not known to them.
func TestDecodeLeftOut(t *testing.T) {
	lots := rand.New(rand.NewSource(11))
	for range 300 {
		var l []api.Known
		for range lots.Intn(60) {
			known := goodKnown(uint32(1 + lots.Intn(30)))
			known.Net.Port = uint16(1 + lots.Intn(2))
			known.Source = net(uint16(lots.Intn(3)), 5)
			known.InTried = lots.Intn(2) == 0
			known.Last = lots.Uint32()
			l = append(l, known)
		}
		secret := someKeys(lots)
		b, at, e := Decode(secret, wantBytes(l...))
		if at != 0 || e != api.OK {
			t.Fatal(at, e)
		}
		checkBook(t, b, wantBook(secret, l...))
	}
}

// Promise 19.5: under another secret each stands where that one draws it.
func TestDecodeOtherSecret(t *testing.T) {
	for i, p := range somePairs(t) {
		secret := api.Keys{K0: uint64(i), K1: 5}
		b, at, e := Decode(secret, p.b.Encode())
		if at != 0 || e != api.OK {
			t.Fatal(at, e)
		}
		checkBook(t, b, wantBook(secret, p.m.all()...))
	}
}

// Rule R1: bytes by lots are decoded or not, and never panic; what is decoded has no more than was told.
func TestDecodeLots(t *testing.T) {
	lots := rand.New(rand.NewSource(12))
	whole := somePair(t, lots, 20).b.Encode()
	for range 20000 {
		s := []byte(whole[:lots.Intn(len(whole)+1)])
		for range lots.Intn(4) {
			if len(s) > 0 {
				s[lots.Intn(len(s))] = byte(lots.Intn(256))
			}
		}
		b, at, e := Decode(api.Keys{}, string(s))
		if e != api.OK {
			if b != nil || at < 0 || at > len(s) {
				t.Fatal(at, e)
			}
			continue
		}
		if at != 0 || 4+73*len(b.All()) > len(s) {
			t.Fatal(at, len(b.All()))
		}
		again, _, _ := Decode(api.Keys{}, b.Encode())
		if again.Encode() != b.Encode() {
			t.Fatal("not the same")
		}
	}
}
