package msg

import (
	"math"
	"math/rand"
	"reflect"
	"slices"
	"strings"
	"testing"

	"bedrock/api"
)

// Promise 9.2 and the chapter's example.
func TestExamples(t *testing.T) {
	if s, e := Encode(Bare(api.MsgVerack)); s != "" || e != api.OK {
		t.Errorf("Encode of a verack: %q %d", s, e)
	}
	if m, at, e := Decode(api.MsgPing, "1234567"); !wantSame(m, api.Msg{}) || at != 0 || e != api.ErrCut {
		t.Errorf("Decode of seven bytes: %v %d %d", m, at, e)
	}
	m := api.Msg{Kind: api.MsgGetblocktxn, Places: []int{1, 2, 5}}
	if s, e := Encode(m); s != strings.Repeat("\x00", 32)+"\x03\x01\x00\x02" || e != api.OK {
		t.Errorf("Encode of the places 1, 2, 5: %q %d", s, e)
	}
}

// stands asks for a message's bytes, there and back.
func stands(t *testing.T, m api.Msg, want string) {
	t.Helper()
	if s, e := encodes(t, m); s != want || e != api.OK {
		t.Errorf("Encode of a %s: %q %d, not %q", commands[m.Kind], s, e, want)
	}
	if back, at, e := decodes(t, m.Kind, want); !wantSame(back, m) || at != 0 || e != api.OK {
		t.Errorf("Decode of a %s: %v %d %d", commands[m.Kind], back, at, e)
	}
}

// Promises 9.2 and 9.3: the payload of each kind, written out.
func TestPayloads(t *testing.T) {
	ip := [16]byte{10: 0xff, 11: 0xff, 12: 127, 15: 1}
	ipText := strings.Repeat("\x00", 10) + "\xff\xff\x7f\x00\x00\x01"
	hash := api.Hash{1, 2, 31: 32}
	hashText := "\x01\x02" + strings.Repeat("\x00", 29) + "\x20"
	head := strings.Repeat("head", 20)
	stands(t, api.Msg{Kind: 1, Version: 70015, Services: 0x0102030405060708, Time: -2, To: api.Net{Services: 1, IP: ip, Port: 0x208d}, From: api.Net{Services: 1 << 56, Port: 1}, Nonce: 0xfffefdfcfbfaf9f8, Agent: "/x/", Height: 0x01020304, Relay: true},
		"\x7f\x11\x01\x00\x08\x07\x06\x05\x04\x03\x02\x01\xfe\xff\xff\xff\xff\xff\xff\xff"+
			"\x01\x00\x00\x00\x00\x00\x00\x00"+ipText+"\x20\x8d"+
			"\x00\x00\x00\x00\x00\x00\x00\x01"+strings.Repeat("\x00", 16)+"\x00\x01"+
			"\xf8\xf9\xfa\xfb\xfc\xfd\xfe\xff\x03/x/\x04\x03\x02\x01\x01")
	stands(t, Bare(1), strings.Repeat("\x00", 86))
	for _, kind := range []int{2, 3, 4} {
		stands(t, Bare(kind), "")
	}
	for _, kind := range []int{5, 6} {
		stands(t, api.Msg{Kind: kind, Nonce: 0x0102030405060708}, "\x08\x07\x06\x05\x04\x03\x02\x01")
	}
	stands(t, api.Msg{Kind: 7, Addrs: []api.Net{{Time: 0x01020304, Services: 5, IP: ip, Port: 0xfffe}, {}}},
		"\x02\x04\x03\x02\x01\x05\x00\x00\x00\x00\x00\x00\x00"+ipText+"\xff\xfe"+strings.Repeat("\x00", 30))
	for _, kind := range []int{8, 9, 10} {
		stands(t, api.Msg{Kind: kind, Items: []api.Item{{Kind: 2, Hash: hash}, {Kind: 0xfefdfcfb}}},
			"\x02\x02\x00\x00\x00"+hashText+"\xfb\xfc\xfd\xfe"+strings.Repeat("\x00", 32))
	}
	stands(t, api.Msg{Kind: 11, Version: 0xfffefdfc, Hashes: []api.Hash{{}, hash}, Stop: api.Hash{31: 9}},
		"\xfc\xfd\xfe\xff\x02"+strings.Repeat("\x00", 32)+hashText+strings.Repeat("\x00", 31)+"\x09")
	stands(t, api.Msg{Kind: 12, Heads: []string{head, strings.Repeat("\xff", 80)}}, "\x02"+head+"\x00"+strings.Repeat("\xff", 80)+"\x00")
	for _, kind := range []int{13, 14} {
		stands(t, api.Msg{Kind: kind, Raw: "\x00all bytes\xff"}, "\x00all bytes\xff")
	}
	stands(t, api.Msg{Kind: 15, High: true, Nonce: 0x0102030405060708}, "\x01\x08\x07\x06\x05\x04\x03\x02\x01")
	stands(t, api.Msg{Kind: 15, Nonce: 2}, "\x00\x02\x00\x00\x00\x00\x00\x00\x00")
	stands(t, api.Msg{Kind: 16, Head: head, Nonce: 7, Shorts: []uint64{0x010203040506, 1<<48 - 1}, Filled: []api.Filled{{Place: 0, Raw: "base"}, {Place: 254}, {Place: 300, Raw: "z"}}},
		head+"\x07\x00\x00\x00\x00\x00\x00\x00\x02\x06\x05\x04\x03\x02\x01\xff\xff\xff\xff\xff\xff\x03\x00\x04base\xfd\xfd\x00\x00\x2d\x01z")
	stands(t, api.Msg{Kind: 17, Hash: hash, Places: []int{3, 4, 65535}}, hashText+"\x03\x03\x00\xfd\xfa\xff")
	stands(t, api.Msg{Kind: 18, Hash: hash, Raws: []string{"", "xyz", strings.Repeat("r", 253)}}, hashText+"\x03\x00\x03xyz\xfd\xfd\x00"+strings.Repeat("r", 253))
}

// Promise 9.2: what is no kind, whatever else is wrong.
func TestEncodeNoKind(t *testing.T) {
	for _, kind := range noKinds {
		for _, m := range []api.Msg{{}, {Nonce: 1}, {Agent: strings.Repeat("a", 65)}, {Items: manyItems(501)}, {Raw: strings.Repeat("r", 16385)}} {
			m.Kind = kind
			if s, e := encodes(t, m); s != "" || e != api.ErrKind {
				t.Errorf("Encode of the kind %d: %q %d", kind, s, e)
			}
		}
	}
}

// Promises 9.2 to 9.4: each list with none, one, as many as may be and more; there and back.
func TestLists(t *testing.T) {
	lots := rand.New(rand.NewSource(92))
	for kind := 1; kind <= 18; kind++ {
		for _, n := range []int{0, 1, 2, 63, 64, 65, 99, 100, 101, 252, 253, 254, 455, 456, 499, 500, 501, 1000} {
			m := lotMsg(lots, kind, n)
			s, e := encodes(t, m)
			if e != api.OK {
				continue
			}
			if back, _, e := decodes(t, kind, s); e != api.OK || !wantSame(back, m) {
				t.Fatalf("a %s with %d elements comes back as %.300v", commands[kind], n, back)
			}
		}
	}
}

// Promise 9.2: where each list has one too many, and where the payload has.
func TestListEdges(t *testing.T) {
	lots := rand.New(rand.NewSource(93))
	for _, x := range []struct {
		kind, n int
		want    api.Errno
	}{
		{7, 100, api.OK}, {7, 101, api.ErrMore},
		{8, 455, api.OK}, {8, 456, api.ErrLong}, {8, 500, api.ErrLong}, {8, 501, api.ErrMore},
		{9, 455, api.OK}, {9, 500, api.ErrLong}, {9, 501, api.ErrMore},
		{10, 455, api.OK}, {10, 500, api.ErrLong}, {10, 501, api.ErrMore},
		{11, 64, api.OK}, {11, 65, api.ErrMore},
		{12, 100, api.OK}, {12, 101, api.ErrMore},
		{16, 500, api.OK}, {16, 501, api.ErrMore},
		{17, 500, api.OK}, {17, 501, api.ErrMore},
		{18, 500, api.OK}, {18, 501, api.ErrMore},
	} {
		if _, e := encodes(t, lotMsg(lots, x.kind, x.n)); e != x.want {
			t.Errorf("a %s with %d elements: %d, not %d", commands[x.kind], x.n, e, x.want)
		}
	}
	head := strings.Repeat("h", 80)
	few := api.Msg{Kind: 16, Head: head, Shorts: make([]uint64, 501)}
	if _, e := encodes(t, few); e != api.ErrMore {
		t.Errorf("too many short ids alone: %d", e)
	}
	full := lotMsg(lots, 16, 501)
	full.Shorts = nil
	if _, e := encodes(t, full); e != api.ErrMore {
		t.Errorf("too many filled ones alone: %d", e)
	}
}

// Promise 9.2: texts as long as they may be, and one byte more, at each place of a list.
func TestTexts(t *testing.T) {
	for n, want := range map[int]api.Errno{0: api.OK, 1: api.OK, 63: api.OK, 64: api.OK, 65: api.ErrMore, 66: api.ErrMore, 70000: api.ErrMore} {
		if _, e := encodes(t, api.Msg{Kind: 1, Agent: strings.Repeat("a", n)}); e != want {
			t.Errorf("an agent of %d bytes: %d", n, e)
		}
	}
	head := strings.Repeat("h", 80)
	for n, want := range map[int]api.Errno{0: api.OK, 252: api.OK, 253: api.OK, 4095: api.OK, 4096: api.OK, 4097: api.ErrMore, 20000: api.ErrMore} {
		for at := range 3 {
			raws := []string{"a", "b", "c"}
			raws[at] = strings.Repeat("r", n)
			filled := []api.Filled{{Place: 1, Raw: raws[0]}, {Place: 2, Raw: raws[1]}, {Place: 3, Raw: raws[2]}}
			if _, e := encodes(t, api.Msg{Kind: 18, Raws: raws}); e != want {
				t.Errorf("a raw of %d bytes: %d", n, e)
			}
			if _, e := encodes(t, api.Msg{Kind: 16, Head: head, Filled: filled}); e != want {
				t.Errorf("a filled raw of %d bytes: %d", n, e)
			}
		}
	}
	for n, want := range map[int]api.Errno{0: api.ErrArg, 1: api.ErrArg, 79: api.ErrArg, 80: api.OK, 81: api.ErrArg, 160: api.ErrArg} {
		text := strings.Repeat("h", n)
		if _, e := encodes(t, api.Msg{Kind: 16, Head: text}); e != want {
			t.Errorf("a head of %d bytes: %d", n, e)
		}
		for _, heads := range [][]string{{text}, {head, head, text}, {text, head}} {
			if _, e := encodes(t, api.Msg{Kind: 12, Heads: heads}); e != want {
				t.Errorf("heads with one of %d bytes: %d", n, e)
			}
		}
	}
	if _, e := encodes(t, api.Msg{Kind: 12, Heads: []string{head + "h", strings.Repeat("h", 79)}}); e != api.ErrArg {
		t.Errorf("heads of 81 and 79 bytes: %d", e)
	}
}

// Promise 9.2: short ids at their edge and beyond, at each place.
func TestShorts(t *testing.T) {
	head := strings.Repeat("h", 80)
	for n, want := range map[uint64]api.Errno{0: api.OK, 1: api.OK, 1<<32 - 1: api.OK, 1 << 32: api.OK, 1<<48 - 1: api.OK, 1 << 48: api.ErrArg, 1<<48 + 1: api.ErrArg, 1 << 63: api.ErrArg, math.MaxUint64: api.ErrArg} {
		for at := range 3 {
			shorts := []uint64{5, 5, 5}
			shorts[at] = n
			m := api.Msg{Kind: 16, Head: head, Shorts: shorts}
			s, e := encodes(t, m)
			if e != want {
				t.Errorf("a short id of %x: %d", n, e)
			}
			if back, _, e := Decode(16, s); want == api.OK && (e != api.OK || !slices.Equal(back.Shorts, shorts)) {
				t.Errorf("a short id of %x comes back as %x %d", n, back.Shorts, e)
			}
		}
	}
}

// Promise 9.2: places that rise, stand still and fall, at their edges and beyond, in both kinds that have some.
func TestPlaces(t *testing.T) {
	for _, x := range []struct {
		places []int
		want   api.Errno
	}{
		{[]int{}, api.OK}, {[]int{0}, api.OK}, {[]int{65535}, api.OK}, {[]int{65536}, api.ErrArg}, {[]int{-1}, api.ErrArg},
		{[]int{0, 1, 2, 3}, api.OK}, {[]int{0, 65535}, api.OK}, {[]int{65534, 65535}, api.OK}, {[]int{65535, 65536}, api.ErrArg},
		{[]int{0, 65536}, api.ErrArg}, {[]int{0, 0}, api.ErrArg}, {[]int{7, 7}, api.ErrArg}, {[]int{65535, 65535}, api.ErrArg},
		{[]int{1, 0}, api.ErrArg}, {[]int{5, 4, 6}, api.ErrArg}, {[]int{1, 2, 9, 8}, api.ErrArg}, {[]int{-1, 0}, api.ErrArg},
		{[]int{0, -1}, api.ErrArg}, {[]int{-2, -1, 0}, api.ErrArg}, {[]int{math.MinInt, 0}, api.ErrArg}, {[]int{math.MinInt}, api.ErrArg},
		{[]int{0, math.MaxInt}, api.ErrArg}, {[]int{math.MaxInt}, api.ErrArg}, {[]int{1 << 32}, api.ErrArg}, {[]int{0, 1<<32 + 1}, api.ErrArg},
		{[]int{252}, api.OK}, {[]int{253}, api.OK}, {[]int{0, 253}, api.OK}, {[]int{0, 254}, api.OK}, {[]int{3, 300, 65535}, api.OK},
	} {
		var filled []api.Filled
		for _, p := range x.places {
			filled = append(filled, api.Filled{Place: p, Raw: "r"})
		}
		for _, m := range []api.Msg{{Kind: 17, Places: x.places}, {Kind: 16, Head: strings.Repeat("h", 80), Filled: filled}} {
			s, e := encodes(t, m)
			if e != x.want {
				t.Errorf("the places %v of a %s: %d", x.places, commands[m.Kind], e)
			}
			if back, _, e := Decode(m.Kind, s); x.want == api.OK && (e != api.OK || !wantSame(back, m)) {
				t.Errorf("the places %v of a %s come back as %v %d", x.places, commands[m.Kind], back, e)
			}
		}
	}
}

// something is a message of that kind with one field that is not zero, and as little as may be in it.
func something(kind int, name string) api.Msg {
	m := api.Msg{Kind: kind}
	fields(&m, func(field string, v reflect.Value) {
		if field == name {
			fill(v)
		}
	})
	return m
}

// fill makes a field one that is not zero: a 1, yes, a text of one byte, a list of one zero element, a struct whose first field is 1.
func fill(v reflect.Value) {
	switch v.Kind() {
	case reflect.Bool:
		v.SetBool(true)
	case reflect.String:
		v.SetString("x")
	case reflect.Slice:
		v.Set(reflect.MakeSlice(v.Type(), 1, 1))
	case reflect.Array:
		fill(v.Index(v.Len() - 1))
	case reflect.Struct:
		fill(v.Field(0))
	case reflect.Int, reflect.Int64:
		v.SetInt(1)
	default:
		v.SetUint(1)
	}
}

// Promise 9.2: each field that a kind does not name, not zero, in each kind, beside a message that may be; lists that are empty and not nil are zero.
func TestUnnamed(t *testing.T) {
	lots := rand.New(rand.NewSource(94))
	for kind := 1; kind <= 18; kind++ {
		good := lotMsg(lots, kind, 3)
		if _, e := encodes(t, good); e != api.OK {
			t.Fatalf("a good %s: %d", commands[kind], e)
		}
		fields(&api.Msg{}, func(name string, _ reflect.Value) {
			m := good
			field := reflect.ValueOf(&m).Elem().FieldByName(name)
			if slices.Contains(named[kind], name) {
				return
			}
			if field.Kind() == reflect.Slice {
				field.Set(reflect.MakeSlice(field.Type(), 0, 4))
				if _, e := encodes(t, m); e != api.OK {
					t.Errorf("a %s with empty %s: %d", commands[kind], name, e)
				}
			}
			fill(field)
			if s, e := encodes(t, m); s != "" || e != api.ErrArg {
				t.Errorf("a %s with %s: %q %d", commands[kind], name, s, e)
			}
			if s, e := encodes(t, something(kind, name)); s != "" || e != api.ErrArg {
				t.Errorf("a bare %s with %s: %q %d", commands[kind], name, s, e)
			}
		})
	}
}

// Promise 9.2: each part of To and From, of which a version names all but the time.
func TestAddresses(t *testing.T) {
	nets := map[string]api.Net{"Time": {Time: 1}, "Services": {Services: 1 << 63}, "IP": {IP: [16]byte{15: 1}}, "Port": {Port: 1}}
	for name, n := range nets {
		for kind := 1; kind <= 18; kind++ {
			to, from := api.Msg{Kind: kind, To: n}, api.Msg{Kind: kind, From: n}
			if kind == 16 {
				to.Head, from.Head = strings.Repeat("h", 80), strings.Repeat("h", 80)
			}
			want := api.ErrArg
			if kind == 1 && name != "Time" {
				want = api.OK
			}
			for _, m := range []api.Msg{to, from} {
				if _, e := encodes(t, m); e != want {
					t.Errorf("a %s with an address's %s: %d", commands[kind], name, e)
				}
			}
		}
	}
	if _, e := encodes(t, api.Msg{Kind: 7, Addrs: []api.Net{{Time: math.MaxUint32}}}); e != api.OK {
		t.Errorf("an addr with a time: %d", e)
	}
}

// longest is messages whose payload has that many bytes (16300 at least), of each kind that can have so many.
func longest(n int) []api.Msg {
	head, most := strings.Repeat("h", 80), strings.Repeat("r", 4096)
	rest := func(used int) string { return strings.Repeat("z", n-used-3) }
	return []api.Msg{
		{Kind: 13, Raw: strings.Repeat("t", n)},
		{Kind: 14, Raw: strings.Repeat("b", n)},
		{Kind: 16, Head: head, Filled: []api.Filled{{Place: 0, Raw: most}, {Place: 1, Raw: most}, {Place: 2, Raw: most}, {Place: 3, Raw: rest(90 + 3*4100 + 1)}}},
		{Kind: 18, Raws: []string{most, most, most, rest(33 + 3*4099)}},
	}
}

// Promises 9.2 and 9.3: payloads of as many bytes as may be, and of one more.
func TestLongest(t *testing.T) {
	for _, n := range []int{16300, 16383, 16384, 16385, 16386} {
		for _, m := range longest(n) {
			if long := len(payload(m)); long != n {
				t.Fatalf("a %s of %d bytes, not %d", commands[m.Kind], long, n)
			}
			s, e := encodes(t, m)
			if n > 16384 {
				if s != "" || e != api.ErrLong {
					t.Errorf("a %s of %d bytes: %d", commands[m.Kind], n, e)
				}
				continue
			}
			if back, _, e := decodes(t, m.Kind, s); e != api.OK || !wantSame(back, m) {
				t.Errorf("a %s of %d bytes comes back with %d", commands[m.Kind], n, e)
			}
		}
	}
	if s, e := Encode(api.Msg{Kind: 13, Raw: strings.Repeat("t", 1<<24)}); s != "" || e != api.ErrLong {
		t.Errorf("a transaction of 2^24 bytes: %d", e)
	}
}

// Promise 9.2: several things wrong at once are told in the promise's order: the kind, too many, what may not be, too long.
func TestEncodeOrder(t *testing.T) {
	head, tooLong := strings.Repeat("h", 80), strings.Repeat("r", 4097)
	long := strings.Repeat("r", 4096)
	for _, x := range []struct {
		m    api.Msg
		want api.Errno
	}{
		{api.Msg{Kind: 19, Agent: strings.Repeat("a", 65), Raw: strings.Repeat("r", 16385)}, api.ErrKind},
		{api.Msg{Kind: 1, Agent: strings.Repeat("a", 65), Raw: "r"}, api.ErrMore},
		{api.Msg{Kind: 1, Agent: strings.Repeat("a", 65), To: api.Net{Time: 1}}, api.ErrMore},
		{api.Msg{Kind: 7, Addrs: make([]api.Net, 101), From: api.Net{Time: 1}}, api.ErrMore},
		{api.Msg{Kind: 8, Items: manyItems(501), Nonce: 1}, api.ErrMore},
		{api.Msg{Kind: 8, Items: manyItems(500), Nonce: 1}, api.ErrArg},
		{api.Msg{Kind: 8, Items: manyItems(500)}, api.ErrLong},
		{api.Msg{Kind: 11, Hashes: make([]api.Hash, 65), Nonce: 1}, api.ErrMore},
		{api.Msg{Kind: 12, Heads: make([]string, 101)}, api.ErrMore},
		{api.Msg{Kind: 12, Heads: make([]string, 100)}, api.ErrArg},
		{api.Msg{Kind: 13, Raw: strings.Repeat("r", 16385), Nonce: 1}, api.ErrArg},
		{api.Msg{Kind: 14, Raw: strings.Repeat("r", 16385), Head: head}, api.ErrArg},
		{api.Msg{Kind: 16, Head: "h", Shorts: make([]uint64, 501)}, api.ErrMore},
		{api.Msg{Kind: 16, Head: "h", Filled: make([]api.Filled, 501)}, api.ErrMore},
		{api.Msg{Kind: 16, Head: "h", Shorts: []uint64{1 << 48}, Filled: []api.Filled{{Place: -1, Raw: tooLong}}}, api.ErrMore},
		{api.Msg{Kind: 16, Head: head, Filled: []api.Filled{{Place: 1}, {Place: 1, Raw: tooLong}}}, api.ErrMore},
		{api.Msg{Kind: 16, Head: head, Filled: []api.Filled{{Place: 1, Raw: long}, {Place: 2, Raw: long}, {Place: 3, Raw: long}, {Place: 3, Raw: long}}}, api.ErrArg},
		{api.Msg{Kind: 16, Head: head, Filled: []api.Filled{{Place: 1, Raw: long}, {Place: 2, Raw: long}, {Place: 3, Raw: long}, {Place: 4, Raw: long}}}, api.ErrLong},
		{api.Msg{Kind: 17, Places: make([]int, 501)}, api.ErrMore},
		{api.Msg{Kind: 17, Places: make([]int, 500)}, api.ErrArg},
		{api.Msg{Kind: 18, Raws: []string{tooLong}, Places: []int{-1}}, api.ErrMore},
		{api.Msg{Kind: 18, Raws: make([]string, 501), Version: 1}, api.ErrMore},
		{api.Msg{Kind: 18, Raws: []string{long, long, long, long}, Version: 1}, api.ErrArg},
		{api.Msg{Kind: 18, Raws: []string{long, long, long, long}}, api.ErrLong},
		// Too much of what the kind does not name is just not zero.
		{api.Msg{Kind: 2, Agent: strings.Repeat("a", 65)}, api.ErrArg},
		{api.Msg{Kind: 2, Items: manyItems(501)}, api.ErrArg},
		{api.Msg{Kind: 5, Raws: []string{tooLong}}, api.ErrArg},
		{api.Msg{Kind: 17, Filled: []api.Filled{{Raw: tooLong}}}, api.ErrArg},
		{api.Msg{Kind: 18, Filled: make([]api.Filled, 501)}, api.ErrArg},
		{api.Msg{Kind: 2, Raw: strings.Repeat("r", 16385)}, api.ErrArg},
	} {
		if s, e := encodes(t, x.m); s != "" || e != x.want {
			t.Errorf("%.120v: %d, not %d", x.m, e, x.want)
		}
	}
}

// Promise 9.2: messages by lots, of which some fields are of another kind.
func TestEncodeLots(t *testing.T) {
	lots := rand.New(rand.NewSource(95))
	for range 20000 {
		m := lotMsg(lots, 1+lots.Intn(18), lots.Intn(4))
		other := reflect.ValueOf(lotMsg(lots, 1+lots.Intn(18), lots.Intn(4)))
		fields(&m, func(name string, v reflect.Value) {
			if lots.Intn(12) == 0 {
				v.Set(other.FieldByName(name))
			}
		})
		if len(m.Places) > 0 && lots.Intn(4) == 0 {
			m.Places[lots.Intn(len(m.Places))] += lots.Intn(3) - 1
		}
		encodes(t, m)
	}
}

// roomy is a message whose lists have spare room behind their ends, in which something lies.
func roomy(lots *rand.Rand, kind int) api.Msg {
	m := lotMsg(lots, kind, 5)
	fields(&m, func(_ string, v reflect.Value) {
		if v.Kind() == reflect.Slice && v.Len() == 5 {
			v.SetLen(3)
		}
	})
	return m
}

// whole is a message with its lists as far as their room goes, in memory of its own.
func whole(m api.Msg) api.Msg {
	fields(&m, func(_ string, v reflect.Value) {
		if v.Kind() == reflect.Slice {
			all := reflect.MakeSlice(v.Type(), v.Cap(), v.Cap())
			reflect.Copy(all, v.Slice(0, v.Cap()))
			v.Set(all)
		}
	})
	return m
}

// Rules R4 and R5: what is handed in stays as it is, and the same call answers the same.
func TestEncodeMemory(t *testing.T) {
	lots := rand.New(rand.NewSource(96))
	for kind := 1; kind <= 18; kind++ {
		m := roomy(lots, kind)
		before := whole(m)
		s, e := encodes(t, m)
		same, cost := Same(m, m), Cost(m)
		if !reflect.DeepEqual(whole(m), before) {
			t.Errorf("a %s was changed", commands[kind])
		}
		if again, e2 := Encode(m); again != s || e2 != e || e != api.OK || !same || Cost(m) != cost {
			t.Errorf("a %s is another one the second time", commands[kind])
		}
	}
}
