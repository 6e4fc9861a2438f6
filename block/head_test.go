package block

import (
	"math"
	"math/big"
	"math/rand"
	"strings"
	"testing"

	"bedrock/api"
)

// heads is headers whose fields are all different, and each field at 0 and at its most, among zeros and among others.
func heads() []api.Header {
	var most api.Hash
	for i := range most {
		most[i] = 255
	}
	const high = math.MaxUint32
	list := []api.Header{{}, head(), {Version: high, Prev: most, Root: most, Time: high, Bits: high, Nonce: high}}
	for _, base := range list[:3] {
		for _, to := range []struct {
			hash   api.Hash
			number uint32
		}{{api.Hash{}, 0}, {most, high}, {api.Hash{0: 1}, 1}, {api.Hash{31: 128}, 1 << 31}} {
			each := []api.Header{base, base, base, base, base, base}
			each[0].Version = to.number
			each[1].Prev = to.hash
			each[2].Root = to.hash
			each[3].Time = to.number
			each[4].Bits = to.number
			each[5].Nonce = to.number
			list = append(list, each...)
		}
	}
	return list
}

// Promise 11.1: the 80 bytes, part by part, each number with its lowest byte first.
func TestHeadParts(t *testing.T) {
	want := "\x01\x02\x03\x04"
	for i := range 32 {
		want += string([]byte{byte(0x10 + i)})
	}
	for i := range 32 {
		want += string([]byte{byte(0x40 + i)})
	}
	want += "\x81\x82\x83\x84" + "\x91\x92\x93\x94" + "\xa1\xa2\xa3\xa4"
	if got := Head(head()); got != want || len(got) != 80 {
		t.Errorf("Head: %x, not %x", got, want)
	}
	if got := Head(api.Header{}); got != zeros(80) {
		t.Errorf("Head of nothing: %x", got)
	}
	if h, e := TakeHead(want, 0); h != head() || e != api.OK {
		t.Errorf("TakeHead: %v %d", h, e)
	}
}

// Promises 11.1 and 11.5: headers go out and come back, wherever they stand, and have the digest of their bytes as id.
func TestHeads(t *testing.T) {
	list := heads()
	lots := rand.New(rand.NewSource(111))
	for range 300 {
		list = append(list, lotHead(lots))
	}
	seen := map[string]api.Header{}
	for _, h := range list {
		s := wantHead(h)
		if got := Head(h); got != s {
			t.Fatalf("Head of %v: %x", h, got)
		}
		if other, there := seen[s]; there && other != h {
			t.Fatalf("two headers with the bytes %x", s)
		}
		seen[s] = h
		if id := ID(h); id != digest(s) {
			t.Fatalf("ID of %v: %x", h, id)
		}
		for _, ahead := range []string{"", "a", strings.Repeat("\xff", 79), strings.Repeat("b", 9000)} {
			for _, behind := range []string{"", "z", strings.Repeat("\xff", 200)} {
				if got, e := TakeHead(ahead+s+behind, len(ahead)); got != h || e != api.OK {
					t.Fatalf("TakeHead behind %d bytes: %v %d, not %v", len(ahead), got, e, h)
				}
			}
		}
	}
}

// Promise 11.1: every place of a text: ErrArg below 0 and above its length, ErrCut where fewer than 80 bytes are left.
func TestTakeHeadPlaces(t *testing.T) {
	lots := rand.New(rand.NewSource(112))
	for _, n := range []int{0, 1, 4, 36, 68, 72, 76, 79, 80, 81, 159, 160, 200} {
		b := make([]byte, n)
		lots.Read(b)
		s := string(b)
		for _, at := range []int{-1, -2, -80, math.MinInt, n + 1, n + 80, math.MaxInt} {
			if h, e := TakeHead(s, at); h != (api.Header{}) || e != api.ErrArg {
				t.Errorf("TakeHead of %d bytes at %d: %v %d", n, at, h, e)
			}
		}
		for at := range n + 1 {
			want, wantE := api.Header{}, api.ErrCut
			if n-at >= 80 {
				want, wantE = wantTakeHead(s[at:]), api.OK
			}
			if h, e := TakeHead(s, at); h != want || e != wantE {
				t.Errorf("TakeHead of %d bytes at %d: %v %d, not %d", n, at, h, e, wantE)
			}
		}
	}
}

// Promise 11.1: a header meets its target, if its id is not above it.
func TestMeets(t *testing.T) {
	lots := rand.New(rand.NewSource(113))
	for _, x := range []struct {
		bits   uint32
		target *big.Int
	}{
		{0x207fffff, shifted(0x7fffff, 29)},
		{0x203fffff, shifted(0x3fffff, 29)},
		{0x20010000, shifted(0x010000, 29)},
		{0x1f00ffff, shifted(0x00ffff, 28)},
		{0x03000001, big.NewInt(1)},
		{0x00000000, big.NewInt(-1)},
		{0x01003456, big.NewInt(-1)},
		{0x20800001, big.NewInt(-1)},
		{0x2100ffff, big.NewInt(-1)},
		{0xffffffff, big.NewInt(-1)},
	} {
		met := 0
		for range 1000 {
			h := lotHead(lots)
			h.Bits = x.bits
			want := wantMeets(h, x.target)
			if got := Meets(h); got != want {
				t.Fatalf("Meets with bits %x: %v", x.bits, got)
			}
			if want {
				met++
			}
		}
		if easy := x.bits == 0x207fffff; easy && (met < 400 || met > 600) {
			t.Errorf("%d of 1000 meet the limit", met)
		}
	}
}
