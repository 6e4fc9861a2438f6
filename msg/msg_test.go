package msg

import (
	"math"
	"reflect"
	"slices"
	"testing"

	"bedrock/api"
)

// noKinds is numbers that are no kind.
var noKinds = []int{0, -1, -2, -18, 19, 20, 90, 255, 256, 257, 274, 1 << 32, 1<<32 + 1, math.MaxInt, math.MinInt, math.MinInt + 1}

// Promise 9.1: each kind and its command, both ways; the numbers of the kinds.
func TestCommands(t *testing.T) {
	kinds := []int{0, api.MsgVersion, api.MsgVerack, api.MsgGetaddr, api.MsgSendheaders, api.MsgPing, api.MsgPong, api.MsgAddr, api.MsgInv, api.MsgGetdata, api.MsgNotfound, api.MsgGetheaders, api.MsgHeaders, api.MsgTx, api.MsgBlock, api.MsgSendcmpct, api.MsgCmpctblock, api.MsgGetblocktxn, api.MsgBlocktxn}
	for want, kind := range kinds {
		if kind != want || Command(kind) != commands[kind] || Kind(commands[kind]) != kind {
			t.Errorf("kind %d: %q, back %d", kind, Command(kind), Kind(commands[kind]))
		}
	}
	for _, kind := range noKinds {
		if s := Command(kind); s != "" {
			t.Errorf("Command(%d): %q", kind, s)
		}
	}
}

// Promise 9.1: texts that are no command, among them all that are near to one.
func TestNoCommands(t *testing.T) {
	for _, s := range []string{"", "x", "\x00", "mempool", "Version", "VERACK", "version\x00", "verack\x00\x00\x00\x00\x00\x00", " tx", "tx ", "cmpctblocks", "getblocks", "header", "reject"} {
		if kind := Kind(s); kind != 0 {
			t.Errorf("Kind(%q): %d", s, kind)
		}
	}
	for _, s := range commands[1:] {
		for i := range s {
			other := []byte(s)
			other[i] ^= 0x20
			for _, near := range []string{s[:i], s[i+1:] + "!", string(other), s[:i] + s[i:i+1] + s[i:]} {
				if kind := Kind(near); kind != 0 && near != "block" { // with which blocktxn begins
					t.Errorf("Kind(%q): %d", near, kind)
				}
			}
		}
	}
}

// Promise 9.1: a message with nothing but its kind.
func TestBare(t *testing.T) {
	for _, kind := range append(slices.Clone(noKinds), 1, 2, 3, 4, 5, 6, 7, 8, 9, 10, 11, 12, 13, 14, 15, 16, 17, 18) {
		if m := Bare(kind); !wantSame(m, api.Msg{Kind: kind}) {
			t.Errorf("Bare(%d): %v", kind, m)
		}
	}
}

// Promise 9.1: pings and pongs, and all other numbers.
func TestNonced(t *testing.T) {
	kinds := slices.Clone(noKinds)
	for kind := range 19 {
		kinds = append(kinds, kind)
	}
	for _, kind := range kinds {
		for _, nonce := range []uint64{0, 1, 255, 1 << 32, 1<<63 + 5, math.MaxUint64} {
			want, wantE := api.Msg{}, api.ErrKind
			if kind == 5 || kind == 6 {
				want, wantE = api.Msg{Kind: kind, Nonce: nonce}, api.OK
			}
			if m, e := Nonced(kind, nonce); !wantSame(m, want) || e != wantE {
				t.Errorf("Nonced(%d, %d): %v %d", kind, nonce, m, e)
			}
		}
	}
}

// manyItems is n items that are unlike one another.
func manyItems(n int) []api.Item {
	l := make([]api.Item, n)
	for i := range l {
		l[i] = api.Item{Kind: uint32(i), Hash: api.Hash{byte(i), byte(i >> 8), 31: 7}}
	}
	return l
}

// Promise 9.1: what asks for things, with none, one, as many as may be and more; the kind ahead of the number.
func TestAsked(t *testing.T) {
	kinds := slices.Clone(noKinds)
	for kind := range 19 {
		kinds = append(kinds, kind)
	}
	for _, kind := range kinds {
		for _, n := range []int{0, 1, 2, 499, 500, 501, 502, 5000} {
			items := manyItems(n)
			want, wantE := api.Msg{}, api.ErrKind
			if kind == 8 || kind == 9 || kind == 10 {
				if want, wantE = (api.Msg{Kind: kind, Items: items}), api.OK; n > 500 {
					want, wantE = api.Msg{}, api.ErrMore
				}
			}
			if m, e := Asked(kind, items...); !wantSame(m, want) || e != wantE {
				t.Errorf("Asked(%d, %d items): %d items %d", kind, n, len(m.Items), e)
			}
		}
	}
	if m, e := Asked(api.MsgInv); !wantSame(m, api.Msg{Kind: api.MsgInv}) || e != api.OK {
		t.Errorf("Asked of none: %v %d", m, e)
	}
}

// Rule R4: Asked keeps nothing of what was handed in, and changes nothing of it.
func TestAskedMemory(t *testing.T) {
	all := manyItems(9)
	items := all[:4]
	m, _ := Asked(api.MsgGetdata, items...)
	other, _ := Asked(api.MsgGetdata, items...)
	for i := range m.Items[:cap(m.Items)] {
		m.Items[:cap(m.Items)][i] = api.Item{Kind: 99}
	}
	if !slices.Equal(all, manyItems(9)) || !slices.Equal(other.Items, items) {
		t.Error("an answer shares memory")
	}
	all[0] = api.Item{Kind: 77}
	if !slices.Equal(other.Items, manyItems(4)) {
		t.Error("what was handed in is kept")
	}
	none, _ := Asked(api.MsgGetdata, all[:0]...)
	if len(none.Items) != 0 || cap(none.Items) != 0 {
		t.Error("an empty answer has the room of what was handed in")
	}
}

// Promises 9.2 and 9.3: the limits and numbers on which the chapter stands.
func TestLimits(t *testing.T) {
	got := []int{api.MaxAgent, api.MaxAddrs, api.MaxInv, api.MaxLocator, api.MaxHeaders, api.MaxTx, api.MaxPayload, api.HeaderBytes, int(api.ErrKind), int(api.ErrLong)}
	if want := []int{64, 100, 500, 64, 100, 4096, 16384, 80, 90, 110}; !reflect.DeepEqual(got, want) {
		t.Errorf("%v, not %v", got, want)
	}
}
