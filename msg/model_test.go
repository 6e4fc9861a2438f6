package msg

import (
	"encoding/binary"
	"math"
	"math/rand"
	"reflect"
	"slices"
	"strings"
	"testing"

	"bedrock/api"
)

// commands is the chapter's table, a kind's command at its place.
var commands = []string{"", "version", "verack", "getaddr", "sendheaders", "ping", "pong", "addr", "inv", "getdata", "notfound", "getheaders", "headers", "tx", "block", "sendcmpct", "cmpctblock", "getblocktxn", "blocktxn"}

// named is the fields that each kind names, by the chapter's table.
var named = [][]string{
	1: {"Version", "Services", "Time", "To", "From", "Nonce", "Agent", "Height", "Relay"},
	2: {}, 3: {}, 4: {},
	5: {"Nonce"}, 6: {"Nonce"},
	7: {"Addrs"},
	8: {"Items"}, 9: {"Items"}, 10: {"Items"},
	11: {"Version", "Hashes", "Stop"},
	12: {"Heads"},
	13: {"Raw"}, 14: {"Raw"},
	15: {"High", "Nonce"},
	16: {"Head", "Nonce", "Shorts", "Filled"},
	17: {"Hash", "Places"},
	18: {"Hash", "Raws"},
}

// most is how many each list may have.
var most = map[string]int{"Addrs": 100, "Items": 500, "Hashes": 64, "Heads": 100, "Shorts": 500, "Filled": 500, "Places": 500, "Raws": 500}

// fields calls with each field of a message, Kind apart.
func fields(m *api.Msg, call func(name string, v reflect.Value)) {
	v := reflect.ValueOf(m).Elem()
	for i := range v.NumField() {
		if name := v.Type().Field(i).Name; name != "Kind" {
			call(name, v.Field(i))
		}
	}
}

// nothing tells whether a field is zero, or an empty list.
func nothing(v reflect.Value) bool {
	return v.IsZero() || v.Kind() == reflect.Slice && v.Len() == 0
}

// wantSame is the model of Same: empty lists are made nil, and all is held against each other by the library.
func wantSame(a, b api.Msg) bool {
	for _, m := range []*api.Msg{&a, &b} {
		fields(m, func(_ string, v reflect.Value) {
			if nothing(v) {
				v.SetZero()
			}
		})
	}
	return reflect.DeepEqual(a, b)
}

// count is a number's bytes in their shortest form.
func count(n uint64) string {
	switch {
	case n <= 252:
		return string([]byte{byte(n)})
	case n <= math.MaxUint16:
		return string(binary.LittleEndian.AppendUint16([]byte{253}, uint16(n)))
	case n <= math.MaxUint32:
		return string(binary.LittleEndian.AppendUint32([]byte{254}, uint32(n)))
	}
	return string(binary.LittleEndian.AppendUint64([]byte{255}, n))
}

// low is the n lowest bytes of a number, the lowest first.
func low(v uint64, n int) string { return string(binary.LittleEndian.AppendUint64(nil, v)[:n]) }

// text is a text behind its count.
func text(s string) string { return count(uint64(len(s))) + s }

// address is an address's bytes without a time.
func address(n api.Net) string {
	return low(n.Services, 8) + string(n.IP[:]) + string([]byte{byte(n.Port >> 8), byte(n.Port)})
}

// each is a count of elements and the bytes of each of them.
func each[T any](l []T, one func(i int, x T) string) string {
	s := count(uint64(len(l)))
	for i, x := range l {
		s += one(i, x)
	}
	return s
}

// payload is the model of the bytes of a message that may be.
func payload(m api.Msg) string {
	hash := func(_ int, h api.Hash) string { return string(h[:]) }
	switch m.Kind {
	case 1:
		return low(uint64(m.Version), 4) + low(m.Services, 8) + low(uint64(m.Time), 8) + address(m.To) + address(m.From) + low(m.Nonce, 8) + text(m.Agent) + low(uint64(m.Height), 4) + map[bool]string{false: "\x00", true: "\x01"}[m.Relay]
	case 5, 6:
		return low(m.Nonce, 8)
	case 7:
		return each(m.Addrs, func(_ int, n api.Net) string { return low(uint64(n.Time), 4) + address(n) })
	case 8, 9, 10:
		return each(m.Items, func(_ int, x api.Item) string { return low(uint64(x.Kind), 4) + hash(0, x.Hash) })
	case 11:
		return low(uint64(m.Version), 4) + each(m.Hashes, hash) + hash(0, m.Stop)
	case 12:
		return each(m.Heads, func(_ int, s string) string { return s + "\x00" })
	case 13, 14:
		return m.Raw
	case 15:
		return map[bool]string{false: "\x00", true: "\x01"}[m.High] + low(m.Nonce, 8)
	case 16:
		return m.Head + low(m.Nonce, 8) + each(m.Shorts, func(_ int, n uint64) string { return low(n, 6) }) + each(m.Filled, func(i int, f api.Filled) string {
			if i > 0 {
				f.Place -= m.Filled[i-1].Place + 1
			}
			return count(uint64(f.Place)) + text(f.Raw)
		})
	case 17:
		return hash(0, m.Hash) + each(m.Places, func(i int, p int) string {
			if i > 0 {
				p -= m.Places[i-1] + 1
			}
			return count(uint64(p))
		})
	case 18:
		return hash(0, m.Hash) + each(m.Raws, func(_ int, s string) string { return text(s) })
	}
	return ""
}

// wantEncode is the model of Encode.
func wantEncode(m api.Msg) (string, api.Errno) {
	if m.Kind < 1 || m.Kind > 18 {
		return "", api.ErrKind
	}
	more, wrong := false, m.To.Time != 0 || m.From.Time != 0
	fields(&m, func(name string, v reflect.Value) {
		switch {
		case !slices.Contains(named[m.Kind], name):
			wrong = wrong || !nothing(v)
		case name == "Agent":
			more = more || v.Len() > 64
		case v.Kind() == reflect.Slice:
			more = more || v.Len() > most[name]
		}
	})
	places := slices.Clone(m.Places)
	for _, f := range m.Filled {
		more = more || len(f.Raw) > 4096 && m.Kind == 16
		places = append(places, f.Place)
	}
	for _, raw := range m.Raws {
		more = more || len(raw) > 4096 && m.Kind == 18
	}
	for i, p := range places {
		wrong = wrong || p < 0 || p > 65535 || i > 0 && places[i-1] >= p
	}
	heads := slices.Clone(m.Heads)
	if m.Kind == 16 {
		heads = append(heads, m.Head)
	}
	for _, s := range heads {
		wrong = wrong || len(s) != 80
	}
	for _, n := range m.Shorts {
		wrong = wrong || n>>48 != 0
	}
	switch {
	case more:
		return "", api.ErrMore
	case wrong:
		return "", api.ErrArg
	case len(payload(m)) > 16384:
		return "", api.ErrLong
	}
	return payload(m), api.OK
}

// fault is where a payload is wrong: the model gets out by a panic, at the first one.
type fault struct {
	at int
	e  api.Errno
}

// walk is the model of going through a payload.
type walk struct {
	s  string
	at int
}

// bytes is the next n bytes, a part.
func (w *walk) bytes(n int) string {
	if n > len(w.s)-w.at {
		panic(fault{w.at, api.ErrCut})
	}
	w.at += n
	return w.s[w.at-n : w.at]
}

// low is the next n bytes as a number, a part.
func (w *walk) low(n int) uint64 {
	return binary.LittleEndian.Uint64([]byte(w.bytes(n) + strings.Repeat("\x00", 8-n)))
}

// count is the next count, a part; what it may not be is told with the place of its first byte.
func (w *walk) count(may func(n uint64) api.Errno) uint64 {
	start := w.at
	first := byte(0)
	n := uint64(0)
	if w.at < len(w.s) {
		first = w.s[w.at]
	}
	long := map[byte]int{253: 3, 254: 5, 255: 9}[first]
	if long == 0 {
		n = w.low(1)
	} else if len(w.s)-w.at < long {
		panic(fault{start, api.ErrCut})
	} else {
		w.at++
		n = w.low(long - 1)
	}
	if w.s[start:w.at] != count(n) {
		panic(fault{start, api.ErrForm})
	}
	if e := may(n); e != api.OK {
		panic(fault{start, e})
	}
	return n
}

// upTo is a count of at most that many.
func (w *walk) upTo(most uint64) int {
	return int(w.count(func(n uint64) api.Errno {
		if n > most {
			return api.ErrMore
		}
		return api.OK
	}))
}

// text is a count of at most that many, a part, and so many bytes, the next one.
func (w *walk) text(most uint64) string { return w.bytes(w.upTo(most)) }

// yes is a byte that is 0 or 1.
func (w *walk) yes() bool {
	b := w.low(1)
	if b > 1 {
		panic(fault{w.at - 1, api.ErrForm})
	}
	return b != 0
}

func (w *walk) hash() api.Hash { return api.Hash([]byte(w.bytes(32))) }

func (w *walk) address() api.Net {
	n := api.Net{Services: w.low(8)}
	n.IP = [16]byte([]byte(w.bytes(16)))
	n.Port = binary.BigEndian.Uint16([]byte(w.bytes(2)))
	return n
}

// place is the place behind those that are there.
func (w *walk) place(behind int) int {
	gap := w.count(func(n uint64) api.Errno {
		if n > 65535 || behind+int(n) > 65535 {
			return api.ErrMore
		}
		return api.OK
	})
	return behind + int(gap)
}

// message is the model of what a payload says.
func (w *walk) message(kind int) api.Msg {
	m := api.Msg{Kind: kind}
	switch kind {
	case 1:
		m.Version = uint32(w.low(4))
		m.Services = w.low(8)
		m.Time = int64(w.low(8))
		m.To = w.address()
		m.From = w.address()
		m.Nonce = w.low(8)
		m.Agent = w.text(64)
		m.Height = uint32(w.low(4))
		m.Relay = w.yes()
	case 5, 6:
		m.Nonce = w.low(8)
	case 7:
		for n := w.upTo(100); n > 0; n-- {
			time := uint32(w.low(4))
			a := w.address()
			a.Time = time
			m.Addrs = append(m.Addrs, a)
		}
	case 8, 9, 10:
		for n := w.upTo(500); n > 0; n-- {
			kind := uint32(w.low(4))
			m.Items = append(m.Items, api.Item{Kind: kind, Hash: w.hash()})
		}
	case 11:
		m.Version = uint32(w.low(4))
		for n := w.upTo(64); n > 0; n-- {
			m.Hashes = append(m.Hashes, w.hash())
		}
		m.Stop = w.hash()
	case 12:
		for n := w.upTo(100); n > 0; n-- {
			m.Heads = append(m.Heads, w.bytes(80))
			w.count(func(n uint64) api.Errno {
				if n != 0 {
					return api.ErrForm
				}
				return api.OK
			})
		}
	case 13, 14:
		m.Raw = w.bytes(len(w.s))
	case 15:
		m.High = w.yes()
		m.Nonce = w.low(8)
	case 16:
		m.Head = w.bytes(80)
		m.Nonce = w.low(8)
		for n := w.upTo(500); n > 0; n-- {
			m.Shorts = append(m.Shorts, w.low(6))
		}
		behind := 0
		for n := w.upTo(500); n > 0; n-- {
			p := w.place(behind)
			behind = p + 1
			m.Filled = append(m.Filled, api.Filled{Place: p, Raw: w.text(4096)})
		}
	case 17:
		m.Hash = w.hash()
		behind := 0
		for n := w.upTo(500); n > 0; n-- {
			p := w.place(behind)
			behind = p + 1
			m.Places = append(m.Places, p)
		}
	case 18:
		m.Hash = w.hash()
		for n := w.upTo(500); n > 0; n-- {
			m.Raws = append(m.Raws, w.text(4096))
		}
	}
	return m
}

// wantDecode is the model of Decode.
func wantDecode(kind int, s string) (m api.Msg, at int, e api.Errno) {
	if kind < 1 || kind > 18 {
		return api.Msg{}, 0, api.ErrKind
	}
	if len(s) > 16384 {
		return api.Msg{}, 0, api.ErrLong
	}
	defer func() {
		if f, is := recover().(fault); is {
			m, at, e = api.Msg{}, f.at, f.e
		}
	}()
	w := &walk{s: s}
	m = w.message(kind)
	if w.at < len(s) {
		return api.Msg{}, w.at, api.ErrMore
	}
	return m, 0, api.OK
}

// encodes asks that Encode answers what the model does.
func encodes(t *testing.T, m api.Msg) (string, api.Errno) {
	t.Helper()
	s, e := Encode(m)
	if want, wantE := wantEncode(m); s != want || e != wantE {
		t.Fatalf("Encode(%.300v): %.80q %d, not %.80q %d", m, s, e, want, wantE)
	}
	return s, e
}

// decodes asks that Decode answers what the model does.
func decodes(t *testing.T, kind int, s string) (api.Msg, int, api.Errno) {
	t.Helper()
	m, at, e := Decode(kind, s)
	want, wantAt, wantE := wantDecode(kind, s)
	if !wantSame(m, want) || at != wantAt || e != wantE {
		t.Fatalf("Decode(%d, %.200q): %.200v %d %d, not %.200v %d %d", kind, s, m, at, e, want, wantAt, wantE)
	}
	return m, at, e
}

// faults asks for that place and error, beside what the model says.
func faults(t *testing.T, kind int, s string, wantAt int, want api.Errno) {
	t.Helper()
	if _, at, e := decodes(t, kind, s); at != wantAt || e != want {
		t.Fatalf("Decode(%d, %.200q): %d %d, not %d %d", kind, s, at, e, wantAt, want)
	}
}

// lotText is n bytes by lots.
func lotText(lots *rand.Rand, n int) string {
	b := make([]byte, n)
	lots.Read(b)
	return string(b)
}

func lotHash(lots *rand.Rand) api.Hash { return api.Hash([]byte(lotText(lots, 32))) }

func lotNet(lots *rand.Rand) api.Net {
	return api.Net{Services: lots.Uint64(), IP: [16]byte([]byte(lotText(lots, 16))), Port: uint16(lots.Uint32())}
}

// lotPlaces is n places that rise, near to each other or far.
func lotPlaces(lots *rand.Rand, n int) []int {
	var l []int
	for p := -1; len(l) < n; {
		p += 1 + lots.Intn(1+lots.Intn(100))
		l = append(l, p)
	}
	return l
}

// lotMsg is a message of a kind by lots, all of whose fields that the kind names have something, with that many elements in each list.
func lotMsg(lots *rand.Rand, kind, n int) api.Msg {
	m := api.Msg{Kind: kind}
	has := func(name string) bool { return slices.Contains(named[kind], name) }
	fields(&m, func(name string, v reflect.Value) {
		if has(name) && v.CanUint() {
			v.SetUint(lots.Uint64() >> (64 - v.Type().Bits()))
		}
	})
	if has("Time") {
		m.Time, m.To, m.From = int64(lots.Uint64()), lotNet(lots), lotNet(lots)
	}
	if has("Agent") {
		m.Agent = lotText(lots, min(64, n))
	}
	m.Relay, m.High = has("Relay") && lots.Intn(2) == 0, has("High") && lots.Intn(2) == 0
	if has("Stop") {
		m.Stop = lotHash(lots)
	}
	if has("Hash") {
		m.Hash = lotHash(lots)
	}
	if has("Head") {
		m.Head = lotText(lots, 80)
	}
	if has("Raw") {
		m.Raw = lotText(lots, n)
	}
	places := lotPlaces(lots, n)
	for i := range n {
		addLot(lots, &m, has, places[i])
	}
	return m
}

// addLot lays one more element behind each list that is named.
func addLot(lots *rand.Rand, m *api.Msg, has func(string) bool, place int) {
	if has("Addrs") {
		a := lotNet(lots)
		a.Time = lots.Uint32()
		m.Addrs = append(m.Addrs, a)
	}
	if has("Items") {
		m.Items = append(m.Items, api.Item{Kind: lots.Uint32(), Hash: lotHash(lots)})
	}
	if has("Hashes") {
		m.Hashes = append(m.Hashes, lotHash(lots))
	}
	if has("Heads") {
		m.Heads = append(m.Heads, lotText(lots, 80))
	}
	if has("Shorts") {
		m.Shorts = append(m.Shorts, lots.Uint64()>>16)
	}
	if has("Filled") {
		m.Filled = append(m.Filled, api.Filled{Place: place, Raw: lotText(lots, lots.Intn(20))})
	}
	if has("Places") {
		m.Places = append(m.Places, place)
	}
	if has("Raws") {
		m.Raws = append(m.Raws, lotText(lots, lots.Intn(20)))
	}
}
