package addr

import (
	"encoding/binary"
	"math/rand"
	"reflect"
	"testing"

	"bedrock/api"
	"bedrock/sip"
)

// spot is a place of a table.
type spot struct {
	tried         bool
	bucket, place int
}

// model is a book by the chapter's words: what stands where, and nothing else.
type model struct {
	secret api.Keys
	places map[spot]api.Known
}

func newModel(secret api.Keys) *model { return &model{secret, map[spot]api.Known{}} }

func (m *model) clone() *model {
	c := newModel(m.secret)
	for s, known := range m.places {
		c.places[s] = known
	}
	return c
}

func wantIs(a api.Net) bool {
	sum := 0
	for _, b := range a.IP {
		sum += int(b)
	}
	return sum > 0 && a.Port > 0
}

func wantName(a api.Net) string {
	name := ""
	for _, b := range a.IP {
		name += string([]byte{b})
	}
	return name + string([]byte{byte(a.Port / 256), byte(a.Port % 256)})
}

// wantSpot is where an address that a source told is to stand, by the Words' bytes.
func wantSpot(secret api.Keys, a, source api.Net, tried bool) spot {
	from, to := []byte{source.IP[0], source.IP[1]}, []byte{a.IP[0], a.IP[1]}
	var text []byte
	var many uint64
	table := byte('N')
	if tried {
		table, many = 'T', 8
		part := sip.Hash(secret, "t"+wantName(a)) % 2
		text = append(append([]byte{'T'}, to...), byte(part))
	} else {
		many = 16
		part := sip.Hash(secret, "n"+string(from)+string(to)) % 4
		text = append(append([]byte{'N'}, from...), byte(part))
	}
	bucket := sip.Hash(secret, string(text)) % many
	place := sip.Hash(secret, string([]byte{'P', table, byte(bucket)})+wantName(a)) % 8
	return spot{tried, int(bucket), int(place)}
}

func sameNet(a, b api.Net) bool { return a.IP == b.IP && a.Port == b.Port }

// find is where an address stands, and whether it does.
func (m *model) find(a api.Net) (spot, bool) {
	for s, known := range m.places {
		if sameNet(known.Net, a) {
			return s, true
		}
	}
	return spot{}, false
}

func (m *model) all() []api.Known {
	var l []api.Known
	for bucket := 0; bucket < 16; bucket++ {
		for place := 0; place < 8; place++ {
			if known, held := m.places[spot{false, bucket, place}]; held {
				l = append(l, known)
			}
		}
	}
	for bucket := 0; bucket < 8; bucket++ {
		for place := 0; place < 8; place++ {
			if known, held := m.places[spot{true, bucket, place}]; held {
				l = append(l, known)
			}
		}
	}
	return l
}

func wantTerrible(known api.Known, now uint32) bool {
	clock := int64(now)
	if known.Tried > 0 && clock-int64(known.Tried) < 60 {
		return false
	}
	early := int64(known.Net.Time)-clock > 600
	old := clock-int64(known.Net.Time) > 2592000
	never := known.Last == 0 && known.Fails > 2
	silent := clock-int64(known.Last) > 604800 && known.Fails > 9
	return early || old || never || silent
}

func (m *model) add(a, source api.Net, now uint32) (bool, api.Errno) {
	if !wantIs(a) || !wantIs(source) {
		return false, 190
	}
	if s, there := m.find(a); there {
		known := m.places[s]
		if a.Time > known.Net.Time {
			known.Net.Time = a.Time
		}
		known.Net.Services |= a.Services
		m.places[s] = known
		return false, 0
	}
	s := wantSpot(m.secret, a, source, false)
	if other, held := m.places[s]; held && !wantTerrible(other, now) {
		return false, 0
	}
	m.places[s] = api.Known{Net: a, Source: source}
	return true, 0
}

func (m *model) good(a api.Net, now uint32) api.Errno {
	if !wantIs(a) {
		return 190
	}
	left, there := m.find(a)
	if !there {
		return api.ErrNone
	}
	known := m.places[left]
	known.Last, known.Tried, known.Fails = now, now, 0
	if now > known.Net.Time {
		known.Net.Time = now
	}
	delete(m.places, left)
	to := wantSpot(m.secret, a, known.Source, true)
	if other, held := m.places[to]; held {
		other.InTried = false
		m.places[wantSpot(m.secret, other.Net, other.Source, false)] = other
	}
	known.InTried = true
	m.places[to] = known
	return 0
}

func (m *model) tried(a api.Net, now uint32) api.Errno {
	if !wantIs(a) {
		return 190
	}
	s, there := m.find(a)
	if !there {
		return api.ErrNone
	}
	known := m.places[s]
	known.Tried = now
	if known.Fails < 1000 {
		known.Fails++
	}
	m.places[s] = known
	return 0
}

func (m *model) drop(a api.Net) bool {
	s, there := m.find(a)
	if there {
		delete(m.places, s)
	}
	return there
}

func (m *model) pick(lot uint64, now uint32, tried bool) (api.Net, bool) {
	all := m.all()
	for i := range all {
		known := all[(int(lot%uint64(len(all)))+i)%len(all)]
		if wantTerrible(known, now) || tried && !known.InTried {
			continue
		}
		return known.Net, true
	}
	return api.Net{}, false
}

func (m *model) some(lot uint64, now uint32, most int) []api.Net {
	var fit, some []api.Net
	for _, known := range m.all() {
		if !wantTerrible(known, now) {
			fit = append(fit, known.Net)
		}
	}
	for i := range fit {
		if i < most && 4*i < len(fit) {
			some = append(some, fit[(int(lot%uint64(len(fit)))+i)%len(fit)])
		}
	}
	return some
}

// wantRecord is what is kept of an address as 73 bytes.
func wantRecord(known api.Known) string {
	var all []byte
	for _, a := range []api.Net{known.Net, known.Source} {
		all = binary.LittleEndian.AppendUint32(all, a.Time)
		all = binary.LittleEndian.AppendUint64(all, a.Services)
		all = append(all, a.IP[:]...)
		all = binary.BigEndian.AppendUint16(all, a.Port)
	}
	all = binary.LittleEndian.AppendUint32(all, known.Last)
	all = binary.LittleEndian.AppendUint32(all, known.Tried)
	all = binary.LittleEndian.AppendUint32(all, uint32(known.Fails))
	if known.InTried {
		return string(append(all, 1))
	}
	return string(append(all, 0))
}

func wantBytes(l ...api.Known) string {
	text := string(binary.LittleEndian.AppendUint32(nil, uint32(len(l))))
	for _, known := range l {
		text += wantRecord(known)
	}
	return text
}

// wantBook is the book of these, each in turn where it belongs, if nothing stands there and it is not kept.
func wantBook(secret api.Keys, l ...api.Known) *model {
	m := newModel(secret)
	for _, known := range l {
		s := wantSpot(secret, known.Net, known.Source, known.InTried)
		_, held := m.places[s]
		if _, there := m.find(known.Net); !there && !held {
			m.places[s] = known
		}
	}
	return m
}

func sameList[E any](a, b []E) bool {
	return len(a) == 0 && len(b) == 0 || reflect.DeepEqual(a, b)
}

// checkBook asks a book for all that it keeps.
func checkBook(t *testing.T, b *Book, m *model) {
	t.Helper()
	want := m.all()
	if got := b.All(); !sameList(got, want) {
		t.Fatalf("All: %d, not %d, or others: %.500v, not %.500v", len(got), len(want), got, want)
	}
	fresh, tried := 0, 0
	for s, known := range m.places {
		if known.InTried != s.tried {
			t.Fatalf("%v of the model stands in the wrong table", known)
		}
		if s.tried {
			tried++
		} else {
			fresh++
		}
	}
	if n, k := b.Len(); n != fresh || k != tried || n > 128 || k > 64 {
		t.Fatalf("Len: %d, %d, not %d, %d", n, k, fresh, tried)
	}
	for _, known := range want {
		a := api.Net{IP: known.Net.IP, Port: known.Net.Port}
		if got, there := b.Get(a); !there || got != known {
			t.Fatalf("Get: %v, %v, not %v", got, there, known)
		}
	}
	if b.Encode() != wantBytes(want...) {
		t.Fatalf("Encode: %.500x", b.Encode())
	}
}

// checkAsks asks a book what hangs on a clock and a lot.
func checkAsks(t *testing.T, b *Book, m *model, now uint32, lot uint64, most int) {
	t.Helper()
	for _, known := range m.all() {
		if got := b.Terrible(known.Net, now); got != wantTerrible(known, now) {
			t.Fatalf("Terrible of %v at %d: %v", known, now, got)
		}
	}
	for _, tried := range []bool{false, true} {
		a, is := m.pick(lot, now, tried)
		if got, ok := b.Pick(lot, now, tried); got != a || ok != is {
			t.Fatalf("Pick(%d, %d, %v): %v, %v, not %v, %v", lot, now, tried, got, ok, a, is)
		}
	}
	if got, want := b.Some(lot, now, most), m.some(lot, now, most); !sameList(got, want) {
		t.Fatalf("Some(%d, %d, %d): %v, not %v", lot, now, most, got, want)
	}
}

func someKeys(lots *rand.Rand) api.Keys { return api.Keys{K0: lots.Uint64(), K1: lots.Uint64()} }

// net is the address with a number in a group.
func net(group uint16, number uint32) api.Net {
	a := api.Net{Time: 1000000, Services: 1, Port: 8333}
	binary.BigEndian.PutUint16(a.IP[:], group)
	binary.BigEndian.PutUint32(a.IP[12:], number)
	return a
}

// someNet is one of few addresses by lots, so that they meet often.
func someNet(lots *rand.Rand) api.Net {
	a := net(uint16(lots.Intn(5)), uint32(lots.Intn(20)))
	a.Port = uint16(lots.Intn(8)) % 3 // at times one that may not be
	a.Services = 1 << lots.Intn(64)
	a.Time = someTime(lots)
	return a
}

// bases is the clocks about which times by lots are.
func bases() []int64 { return []int64{0, 1000000, 3000000, 4294967295} }

func someTime(lots *rand.Rand) uint32 {
	ahead := []int64{0, 59, 60, 61, 600, 601, 604800, 604801, 2592000, 2592001, int64(lots.Intn(1000)), int64(lots.Intn(3000000))}[lots.Intn(12)]
	if lots.Intn(2) == 0 {
		ahead = -ahead
	}
	return uint32(min(max(bases()[lots.Intn(4)]+ahead, 0), 4294967295))
}

// bothAdd adds to a book and to its model.
func bothAdd(t *testing.T, b *Book, m *model, a, source api.Net, now uint32) bool {
	t.Helper()
	is, e := b.Add(a, source, now)
	want, wrong := m.add(a, source, now)
	if is != want || e != wrong {
		t.Fatalf("Add(%v, %v, %d): %v, %d, not %v, %d", a, source, now, is, e, want, wrong)
	}
	return is
}

func bothGood(t *testing.T, b *Book, m *model, a api.Net, now uint32) {
	t.Helper()
	if e, want := b.Good(a, now), m.good(a, now); e != want {
		t.Fatalf("Good(%v, %d): %d, not %d", a, now, e, want)
	}
}

func bothTried(t *testing.T, b *Book, m *model, a api.Net, now uint32) {
	t.Helper()
	if e, want := b.Tried(a, now), m.tried(a, now); e != want {
		t.Fatalf("Tried(%v, %d): %d, not %d", a, now, e, want)
	}
}

func bothDrop(t *testing.T, b *Book, m *model, a api.Net) {
	t.Helper()
	if is, want := b.Drop(a), m.drop(a); is != want {
		t.Fatalf("Drop(%v): %v, not %v", a, is, want)
	}
}

// pair is a book and its model.
type pair struct {
	b *Book
	m *model
}

// clockNow is when the addresses of books by lots were told; the oldest of them are terrible a second later.
const clockNow = 4000000

// somePair is a book into which so many were told by lots, of which some answered, and some did not.
func somePair(t *testing.T, lots *rand.Rand, told int) pair {
	secret := someKeys(lots)
	p := pair{New(secret), newModel(secret)}
	for range told {
		a := net(uint16(lots.Intn(64)), uint32(1+lots.Intn(1<<30)))
		a.Time = clockNow - uint32(lots.Intn(4))*864000
		bothAdd(t, p.b, p.m, a, net(uint16(lots.Intn(64)), 1), clockNow-500000)
		for range lots.Intn(5) {
			if lots.Intn(3) > 0 {
				bothTried(t, p.b, p.m, a, clockNow-100000)
			} else {
				bothGood(t, p.b, p.m, a, clockNow-50000)
			}
		}
	}
	return p
}

// fullPair is a book in which something stands in each place.
func fullPair(t *testing.T) pair {
	m := newModel(api.Keys{K0: 21, K1: 12})
	for i := uint32(1); len(m.places) < 192; i++ {
		known := api.Known{Net: net(uint16(i), i), Source: net(uint16(i/7), 3), Last: i, Fails: int(i % 20), InTried: i%2 > 0}
		known.Net.Time = clockNow - i%4*864000
		m.places[wantSpot(m.secret, known.Net, known.Source, known.InTried)] = known
	}
	b, at, e := Decode(m.secret, wantBytes(m.all()...))
	if at != 0 || e != api.OK {
		t.Fatal(at, e)
	}
	return pair{b, m}
}

// somePairs is books of all kinds: empty, with one, a few, many, full.
func somePairs(t *testing.T) []pair {
	lots := rand.New(rand.NewSource(19))
	all := []pair{fullPair(t)}
	for _, told := range []int{0, 1, 1, 2, 3, 5, 9, 30, 100, 400, 3000} {
		all = append(all, somePair(t, lots, told))
	}
	return all
}
