package tx

import (
	"math/rand"
	"slices"
	"strings"
	"testing"

	"bedrock/api"
)

// encodes is Encode, held against the model, with Size and ID.
func encodes(t *testing.T, x api.Tx) (string, api.Errno) {
	t.Helper()
	want, wantE, long := wantBytes(x), wantTold(x), len(wantBytes(x))
	var wantID api.Hash
	if wantE != api.OK {
		want = ""
	} else {
		wantID = digest(want)
	}
	got, e := Encode(x)
	if got != want || e != wantE {
		t.Fatalf("Encode of %d bytes: %d bytes, %d, not %d", long, len(got), e, wantE)
	}
	if n := Size(x); n != long {
		t.Fatalf("Size of %d bytes: %d", long, n)
	}
	if id, e := ID(x); id != wantID || e != wantE {
		t.Fatalf("ID of %d bytes: %x %d", long, id, e)
	}
	return got, e
}

// Promise 10.1 and the chapter's example: 62 bytes, part by part.
func TestEncodeExample(t *testing.T) {
	x := api.Tx{Ins: []api.In{{Point: null, Key: "ab"}}, Outs: []api.Out{{Value: 5}}}
	want := "\x00\x00\x00\x00" + "\x01" + strings.Repeat("\x00", 32) + "\xff\xff\xff\xff" + "\x02ab" + "\x00\x00\x00\x00" + "\x01" + "\x05\x00\x00\x00\x00\x00\x00\x00" + "\x00" + "\x00\x00\x00\x00"
	if s, e := Encode(x); s != want || len(s) != 62 || e != api.OK || Size(x) != 62 {
		t.Errorf("Encode: %x %d, Size %d", s, e, Size(x))
	}
	if Check(x) != api.OK || !Base(x) {
		t.Errorf("Check %d, Base %v", Check(x), Base(x))
	}
}

// Promise 10.1: each number with its lowest byte first, each part in its place.
func TestEncodeParts(t *testing.T) {
	var id api.Hash
	for i := range id {
		id[i] = byte(i + 1)
	}
	x := api.Tx{
		Version: 0x04030201,
		Ins:     []api.In{{Point: api.Point{Tx: id, Index: 0x14131211}, Key: "key", Sequence: 0x24232221}, {Sequence: 1}},
		Outs:    []api.Out{{Value: 0x3837363534333231, Lock: "lo"}, {Lock: "x"}, {Value: 1 << 63}},
		Time:    0x44434241,
	}
	want := "\x01\x02\x03\x04" + "\x02" +
		string(id[:]) + "\x11\x12\x13\x14" + "\x03key" + "\x21\x22\x23\x24" +
		strings.Repeat("\x00", 36) + "\x00" + "\x01\x00\x00\x00" +
		"\x03" +
		"12345678" + "\x02lo" +
		"\x00\x00\x00\x00\x00\x00\x00\x00" + "\x01x" +
		"\x00\x00\x00\x00\x00\x00\x00\x80" + "\x00" +
		"ABCD"
	if s, e := encodes(t, x); s != want || e != api.OK {
		t.Errorf("Encode: %x %d, not %x", s, e, want)
	}
	if s, e := encodes(t, api.Tx{}); s != strings.Repeat("\x00", 10) || e != api.OK {
		t.Errorf("Encode of nothing: %x %d", s, e)
	}
	if s, e := encodes(t, api.Tx{Ins: []api.In{}, Outs: []api.Out{}}); s != strings.Repeat("\x00", 10) || e != api.OK {
		t.Errorf("Encode of empty lists: %x %d", s, e)
	}
}

// Promise 10.1: keys and locks of 0 up to MaxScript bytes are told, longer ones are not, wherever they stand.
func TestEncodeScript(t *testing.T) {
	for _, n := range []int{0, 1, 252, 253, 254, 519, 520, 521, 522, 4000, 5000, 70000} {
		text, want := strings.Repeat("s", n), api.OK
		if n > 520 {
			want = api.ErrScript
		}
		for i := range 3 {
			x := plain(3, 3)
			x.Ins[i].Key = text
			if _, e := encodes(t, x); e != want {
				t.Errorf("a key %d of %d bytes: %d", i, n, e)
			}
			x = plain(3, 3)
			x.Outs[i].Lock = text
			if _, e := encodes(t, x); e != want {
				t.Errorf("a lock %d of %d bytes: %d", i, n, e)
			}
		}
	}
}

// Promise 10.1: MaxTx bytes are told, one more is not; what is too long in both ways is ErrScript.
func TestEncodeSize(t *testing.T) {
	for _, n := range []int{4000, 4095, 4096, 4097, 4098, 4200} {
		x, want := sized(n), api.OK
		if n > 4096 {
			want = api.ErrSize
		}
		if _, e := encodes(t, x); e != want || Size(x) != n {
			t.Errorf("%d bytes: %d, Size %d", n, e, Size(x))
		}
		if e := Check(x); e != want {
			t.Errorf("Check of %d bytes: %d", n, e)
		}
	}
	x := sized(4200)
	last := len(x.Outs) - 1
	x.Outs[last].Lock = strings.Repeat("l", 521)
	if _, e := encodes(t, x); e != api.ErrScript {
		t.Errorf("too many bytes, and a last lock that is too long: %d", e)
	}
	x = plain(98, 5) // 98 inputs of 42 bytes, and 5 outputs of 10
	if n := Size(x); n != 8+1+98*42+1+5*10 {
		t.Errorf("Size of many: %d", n)
	}
	if _, e := encodes(t, x); e != api.ErrSize {
		t.Errorf("many inputs: %d", e)
	}
}

// Promise 10.1: Size of transactions far beyond the bound, and at the edges of the counts.
func TestSizeOfAny(t *testing.T) {
	for _, n := range []int{0, 1, 251, 252, 253, 254, 65535, 65536} {
		long := 1
		if n > 252 {
			long = 3
		}
		if n > 65535 {
			long = 5
		}
		for _, x := range []struct {
			t    api.Tx
			want int
		}{
			{api.Tx{Ins: make([]api.In, n)}, 9 + long + 41*n},
			{api.Tx{Outs: make([]api.Out, n)}, 9 + long + 9*n},
			{api.Tx{Ins: []api.In{{Key: strings.Repeat("k", n)}}}, 10 + 40 + long + n},
			{api.Tx{Outs: []api.Out{{Lock: strings.Repeat("l", n)}}}, 10 + 8 + long + n},
		} {
			if got := Size(x.t); got != x.want {
				t.Errorf("Size of %d: %d, not %d", n, got, x.want)
			}
		}
	}
}

// Promises 10.1, 10.2, 10.5: transactions by lots, of all sizes, go out and come back.
func TestEncodeLots(t *testing.T) {
	lots := rand.New(rand.NewSource(101))
	told := 0
	for range 3000 {
		x := lotTx(lots, lots.Intn(12), lots.Intn(12), []int{3, 40, 300, 525}[lots.Intn(4)])
		s, e := encodes(t, x)
		if e != api.OK {
			continue
		}
		told++
		if back, e := decodes(t, s); e != api.OK || !Same(back, x) || !wantSame(back, x) {
			t.Fatalf("Decode of Encode: %d", e)
		}
	}
	if told < 1000 {
		t.Errorf("%d were told", told)
	}
}

// Rule R4: what is handed in stays as it is, its spare room too.
func TestEncodeMemory(t *testing.T) {
	x := plain(4, 4)
	old := api.Tx{Version: x.Version, Ins: slices.Clone(x.Ins), Outs: slices.Clone(x.Outs), Time: x.Time}
	part := x
	part.Ins, part.Outs = x.Ins[:2], x.Outs[:2]
	Encode(part)
	Size(part)
	ID(part)
	Check(part)
	Paid(part)
	Base(part)
	Final(part, 1, 1)
	Points(part)
	Pairs(api.Hash{}, part)
	Same(part, x)
	if !wantSame(x, old) {
		t.Error("a call changed what it was handed")
	}
}
