package sip

import (
	"crypto/sha256"
	"encoding/binary"
	"math/rand"
	"testing"

	"bedrock/api"
)

// someID is an id by lots.
func someID(lots *rand.Rand) api.Hash { return api.Hash([]byte(someText(lots, 32))) }

// numberID is an id whose first eight bytes are a number and whose others are 0.
func numberID(n uint64) api.Hash {
	var id api.Hash
	binary.LittleEndian.PutUint64(id[:], n)
	return id
}

// clashing is ids that have one short id by keysOfBytes, two and two; they were searched for.
func clashing() [][2]api.Hash {
	var all [][2]api.Hash
	for _, two := range [][2]uint64{{24924540, 50085759}, {8293137, 19802124}, {8530083, 14223752}, {54874333, 61011897}, {4143942, 4620772}} {
		all = append(all, [2]api.Hash{numberID(two[0]), numberID(two[1])})
	}
	return all
}

// Promise 3.1: SHA-256, once, of the header and the nonce; its first and its next eight bytes.
func TestKeys(t *testing.T) {
	lots := rand.New(rand.NewSource(8))
	for _, nonce := range []uint64{0, 1, 255, 256, 1 << 32, 1<<63 - 1, 1 << 63, 1<<64 - 1, 0x0102030405060708, lots.Uint64()} {
		for _, header := range []string{bytesFrom0(80), string(make([]byte, 80)), someText(lots, 80)} {
			sum := sha256.Sum256(binary.LittleEndian.AppendUint64([]byte(header), nonce))
			want := api.Keys{K0: binary.LittleEndian.Uint64(sum[:]), K1: binary.LittleEndian.Uint64(sum[8:])}
			if got, e := Keys(header, nonce); got != want || e != api.OK {
				t.Fatalf("%x %d: %x %d, not %x", header, nonce, got, e, want)
			}
		}
	}
}

// Promise 3.1: a header of any other length.
func TestKeysWrong(t *testing.T) {
	for _, n := range []int{0, 1, 8, 16, 32, 72, 78, 79, 81, 82, 88, 160, 1000} {
		for _, nonce := range []uint64{0, 1, 1<<64 - 1} {
			if got, e := Keys(bytesFrom0(n), nonce); got != (api.Keys{}) || e != api.ErrArg {
				t.Errorf("%d bytes: %x %d", n, got, e)
			}
		}
	}
}

// Promise 3.1: the lowest 48 bits of SipHash of the 32 bytes.
func TestShort(t *testing.T) {
	lots := rand.New(rand.NewSource(9))
	for range 500 {
		k, id := someKeys(lots), someID(lots)
		if got, want := Short(k, id), wantHash(k, string(id[:]))<<16>>16; got != want {
			t.Fatalf("%x %x: %012x, not %012x", k, id, got, want)
		}
	}
	if got := Short(keysOfBytes(), api.Hash([]byte(bytesFrom0(32)))); got != 0x512f72f27cce {
		t.Errorf("%012x", got)
	}
	if got, want := Short(api.Keys{}, api.Hash{}), wantHash(api.Keys{}, string(make([]byte, 32)))%(1<<48); got != want {
		t.Errorf("%012x, not %012x", got, want)
	}
}

// Promise 3.1: six bytes, the lowest first, and back again.
func TestShortBytes(t *testing.T) {
	lots := rand.New(rand.NewSource(10))
	named := []struct {
		short uint64
		want  string
	}{
		{0, "\x00\x00\x00\x00\x00\x00"},
		{1, "\x01\x00\x00\x00\x00\x00"},
		{0x060504030201, "\x01\x02\x03\x04\x05\x06"},
		{1<<32 - 1, "\xff\xff\xff\xff\x00\x00"},
		{1 << 32, "\x00\x00\x00\x00\x01\x00"},
		{1 << 47, "\x00\x00\x00\x00\x00\x80"},
		{1<<48 - 2, "\xfe\xff\xff\xff\xff\xff"},
		{1<<48 - 1, "\xff\xff\xff\xff\xff\xff"},
	}
	for _, c := range named {
		if got, e := ShortBytes(c.short); got != c.want || e != api.OK {
			t.Errorf("%x: %x %d, not %x", c.short, got, e, c.want)
		}
		if got, e := TakeShort(c.want, 0); got != c.short || e != api.OK {
			t.Errorf("%x: %x %d, not %x", c.want, got, e, c.short)
		}
	}
	for range 500 {
		short := lots.Uint64() >> (16 + lots.Intn(48))
		s, e := ShortBytes(short)
		if back, f := TakeShort(s, 0); back != short || len(s) != 6 || e != api.OK || f != api.OK {
			t.Fatalf("%x: %x %d, and back: %x %d", short, s, e, back, f)
		}
	}
}

// Promise 3.1: numbers above 2^48 - 1 are no short ids.
func TestShortBytesWrong(t *testing.T) {
	for _, short := range []uint64{1 << 48, 1<<48 + 1, 1 << 49, 1 << 56, 1 << 63, 1<<64 - 1, 0xffff000000000000} {
		if got, e := ShortBytes(short); got != "" || e != api.ErrShort {
			t.Errorf("%x: %x %d", short, got, e)
		}
	}
}

// Promise 3.1: the six bytes at a place, ErrCut where they are not all there, ErrArg outside of the text.
func TestTakeShort(t *testing.T) {
	lots := rand.New(rand.NewSource(11))
	for _, n := range []int{0, 1, 5, 6, 7, 11, 12, 13, 40} {
		s := someText(lots, n)
		for at := -2; at <= n+8; at++ {
			var want uint64
			wantE := api.OK
			switch {
			case at < 0 || at > n:
				wantE = api.ErrArg
			case n-at < 6:
				wantE = api.ErrCut
			default:
				want = binary.LittleEndian.Uint64([]byte(s[at:at+6] + "\x00\x00"))
			}
			if got, e := TakeShort(s, at); got != want || e != wantE {
				t.Errorf("%x at %d: %x %d, not %x %d", s, at, got, e, want, wantE)
			}
		}
	}
	for _, at := range []int{-1 << 63, -1 << 31, 1 << 31, 1 << 32, 1<<63 - 6, 1<<63 - 1} {
		if got, e := TakeShort(bytesFrom0(100), at); got != 0 || e != api.ErrArg {
			t.Errorf("at %d: %x %d", at, got, e)
		}
	}
}

// checkClash holds Clash against what is wanted, and its list against what it was.
func checkClash(t *testing.T, k api.Keys, ids []api.Hash, first, second int, found bool) {
	t.Helper()
	was := append([]api.Hash(nil), ids...)
	if a, b, ok := Clash(k, ids...); a != first || b != second || ok != found {
		t.Errorf("%d ids: %d %d %t, not %d %d %t", len(ids), a, b, ok, first, second, found)
	}
	for i := range ids {
		if ids[i] != was[i] {
			t.Fatalf("the id at %d was changed", i)
		}
	}
}

// Promise 3.2: that the ids that clash in these tests do so, and by 48 bits alone.
func TestClashing(t *testing.T) {
	for _, two := range clashing() {
		a, b := wantHash(keysOfBytes(), string(two[0][:])), wantHash(keysOfBytes(), string(two[1][:]))
		if a<<16 != b<<16 || a == b || two[0] == two[1] {
			t.Errorf("%x: %016x %016x", two, a, b)
		}
	}
}

// Promise 3.2: no ids, ids without a clash, and ids that are the same, which do not clash.
func TestClashNone(t *testing.T) {
	lots := rand.New(rand.NewSource(12))
	k := keysOfBytes()
	checkClash(t, k, nil, 0, 0, false)
	checkClash(t, k, []api.Hash{}, 0, 0, false)
	checkClash(t, k, []api.Hash{{}}, 0, 0, false)
	checkClash(t, k, []api.Hash{{}, {}, {}}, 0, 0, false)
	var ids []api.Hash
	for range 1000 {
		ids = append(ids, someID(lots))
	}
	checkClash(t, k, ids, 0, 0, false)
	checkClash(t, k, append(ids, ids...), 0, 0, false)
	for _, two := range clashing() {
		checkClash(t, k, []api.Hash{two[0], two[0]}, 0, 0, false)
		checkClash(t, k, []api.Hash{two[1], {}, two[1]}, 0, 0, false)
		checkClash(t, api.Keys{}, []api.Hash{two[0], two[1]}, 0, 0, false)
		checkClash(t, api.Keys{K0: k.K0}, []api.Hash{two[0], two[1]}, 0, 0, false)
	}
}

// Promise 3.2: the least second place, then the least first one, with ids that are the same among them.
func TestClash(t *testing.T) {
	k := keysOfBytes()
	all := clashing()
	a, b, c, d, x := all[0][0], all[0][1], all[1][0], all[1][1], numberID(1)
	cases := []struct {
		ids           []api.Hash
		first, second int
	}{
		{[]api.Hash{a, b}, 0, 1},
		{[]api.Hash{b, a}, 0, 1},
		{[]api.Hash{x, a, b}, 1, 2},
		{[]api.Hash{a, x, b}, 0, 2},
		{[]api.Hash{a, a, b}, 0, 2},
		{[]api.Hash{a, b, b}, 0, 1},
		{[]api.Hash{a, b, a}, 0, 1},
		{[]api.Hash{x, x, a, a, x, b, b}, 2, 5},
		{[]api.Hash{a, c, d, b}, 1, 2},
		{[]api.Hash{a, c, b, d}, 0, 2},
		{[]api.Hash{c, a, b, d}, 1, 2},
		{[]api.Hash{c, c, a, a, d, b}, 0, 4},
		{[]api.Hash{a, b, c, d}, 0, 1},
		{[]api.Hash{x, a, x, c, x, d, b}, 3, 5},
	}
	for i, one := range cases {
		t.Log(i)
		checkClash(t, k, one.ids, one.first, one.second, true)
	}
}

// wantClash is the first two ids that clash, by holding every one against all ahead of it.
func wantClash(k api.Keys, ids []api.Hash) (int, int, bool) {
	for second := range ids {
		for first := range second {
			if ids[first] != ids[second] && Short(k, ids[first]) == Short(k, ids[second]) {
				return first, second, true
			}
		}
	}
	return 0, 0, false
}

// Promise 3.2: lists by lots of ids that clash, against holding all against all.
func TestClashByLots(t *testing.T) {
	lots := rand.New(rand.NewSource(13))
	bag := []api.Hash{{}, numberID(1), numberID(2)}
	for _, two := range clashing() {
		bag = append(bag, two[0], two[1])
	}
	found := 0
	for range 2000 {
		ids := make([]api.Hash, lots.Intn(10))
		for i := range ids {
			ids[i] = bag[lots.Intn(len(bag))]
		}
		first, second, ok := wantClash(keysOfBytes(), ids)
		checkClash(t, keysOfBytes(), ids, first, second, ok)
		if ok {
			found++
		}
	}
	if found == 0 || found == 2000 {
		t.Errorf("%d of 2000 lists had a clash", found)
	}
}
