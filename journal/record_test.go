package journal

import (
	"encoding/hex"
	"math"
	"math/rand"
	"slices"
	"strings"
	"testing"

	"bedrock/api"
)

// Promise 12.1: the bytes of records, written out.
func TestRecordWritten(t *testing.T) {
	for _, x := range []struct {
		epoch, number uint64
		s, want       string
	}{
		{0, 0, "", "000000000000000000000000f6eab7b9"},
		{0, 0, "a", "010000000000000000000000610dd72084"},
		{0, 1, "b", "01000000010000000000000062dd681549"},
		{1, 0, "a", "010000000000000000000000617ad46ff0"},
		{7, 258, "record", "0600000002010000000000007265636f7264f7d9a4f2"},
		{math.MaxUint64, math.MaxUint64, "\x00\xff", "02000000ffffffffffffffff00ff779cfdf5"},
	} {
		got, e := Record(x.epoch, x.number, x.s)
		if e != api.OK || hex.EncodeToString([]byte(got)) != x.want {
			t.Errorf("Record(%d, %d, %q): %x, %d", x.epoch, x.number, x.s, got, e)
		}
	}
	got, e := Record(3, 5, strings.Repeat("x", 65536))
	if e != api.OK || len(got) != 65552 || got[:14] != "\x00\x00\x01\x00\x05\x00\x00\x00\x00\x00\x00\x00xx" || got[65548:] != "\x6e\xe8\xf9\xb0" {
		t.Errorf("Record of 65536 bytes: %d bytes, %x, %d", len(got), got[:14], e)
	}
}

// Promise 12.1: the 20 bytes at the front, written out.
func TestHeadWritten(t *testing.T) {
	for epoch, want := range map[uint64]string{
		0:              "626564726f636b6a000000000000000054b7dd1d",
		1:              "626564726f636b6a010000000000000021fbe1c1",
		math.MaxUint64: "626564726f636b6affffffffffffffffe42c2e3b",
	} {
		if got := Head(epoch); hex.EncodeToString([]byte(got)) != want {
			t.Errorf("Head(%d): %x", epoch, got)
		}
	}
}

// Promise 12.1: records of all lengths at the edges, of numbers and epochs at theirs.
func TestRecord(t *testing.T) {
	ends := []uint64{0, 1, 255, 256, 1 << 32, 1<<63 - 1, 1 << 63, math.MaxUint64 - 1, math.MaxUint64}
	for _, epoch := range ends {
		for _, number := range ends {
			for _, long := range []int{0, 1, 2, 43, 44, 45, 108, 300} {
				s := strings.Repeat("\xfe", long)
				if got, e := Record(epoch, number, s); got != wantRecord(epoch, number, s) || e != api.OK {
					t.Fatalf("Record(%d, %d) of %d bytes: %x, %d", epoch, number, long, got, e)
				}
			}
		}
		if Head(epoch) != wantHead(epoch) {
			t.Fatalf("Head(%d): %x", epoch, Head(epoch))
		}
	}
	for _, long := range []int{65535, 65536} {
		s := strings.Repeat("r", long)
		if got, e := Record(1, 2, s); got != wantRecord(1, 2, s) || e != api.OK {
			t.Fatalf("Record of %d bytes: %d bytes, %d", long, len(got), e)
		}
	}
	for _, long := range []int{65537, 65538, 131072} {
		if got, e := Record(1, 2, strings.Repeat("r", long)); got != "" || e != api.ErrRecord {
			t.Fatalf("Record of %d bytes: %d bytes, %d", long, len(got), e)
		}
	}
}

// reads asks what Read tells of bytes that have a front.
func reads(t *testing.T, s string, epoch uint64, records []string, torn int) {
	t.Helper()
	gotEpoch, got, gotTorn, e := Read(s)
	if gotEpoch != epoch || !slices.Equal(got, records) || gotTorn != torn || e != api.OK {
		t.Fatalf("Read of %d bytes: %d, %.80q, %d, %d, not %d, %.80q, %d", len(s), gotEpoch, got, gotTorn, e, epoch, records, torn)
	}
}

// noJournal asks that Read refuses bytes.
func noJournal(t *testing.T, s string) {
	t.Helper()
	if epoch, records, torn, e := Read(s); epoch != 0 || records != nil || torn != 0 || e != api.ErrHead {
		t.Fatalf("Read(%.60q): %d, %.60q, %d, %d", s, epoch, records, torn, e)
	}
}

// Promise 12.1: files of all kinds of records are read whole.
func TestReadWhole(t *testing.T) {
	long := strings.Repeat("L", 65536)
	for _, epoch := range []uint64{0, 1, 1 << 40, math.MaxUint64} {
		for _, l := range [][]string{nil, {""}, {"a"}, {"", "", ""}, {"a", "", "bcd"}, {long}, {"a", long, "", long[1:], "z"}} {
			reads(t, wantFile(epoch, l...), epoch, l, 0)
		}
	}
}

// Promise 12.1: of every beginning of a file the records that are whole, and how many bytes are torn.
func TestReadBeginnings(t *testing.T) {
	l := []string{"first", "", "third one", "\x00\x00\x00\x00", "x"}
	file := wantFile(9, l...)
	for n := range len(file) + 1 {
		if n < 20 {
			noJournal(t, file[:n])
			continue
		}
		whole, at := 0, 20
		for whole < len(l) && at+16+len(l[whole]) <= n {
			at += 16 + len(l[whole])
			whole++
		}
		reads(t, file[:n], 9, l[:whole], n-at)
	}
}

// Promise 12.1: with each byte turned once, in all ways: of the front there is no journal, of a record it and all behind it are torn.
func TestReadTurned(t *testing.T) {
	l := []string{"first", "", "third"}
	file := wantFile(3, l...)
	for i := range len(file) {
		for turn := 1; turn < 256; turn++ {
			b := []byte(file)
			b[i] ^= byte(turn)
			if i < 20 {
				noJournal(t, string(b))
				continue
			}
			whole, at := 0, 20
			for at+16+len(l[whole]) <= i {
				at += 16 + len(l[whole])
				whole++
			}
			reads(t, string(b), 3, l[:whole], len(file)-at)
		}
	}
}

// Promise 12.1: a record of another number, of another epoch, twice, left out, two that changed places.
func TestReadMisplaced(t *testing.T) {
	head := wantHead(4)
	r := func(number uint64, s string) string { return wantRecord(4, number, s) }
	other := func(epoch uint64) string { return wantRecord(epoch, 1, "b") }
	a := r(0, "a")
	for _, x := range []struct {
		behind string // behind the front and the record a
		whole  []string
	}{
		{r(1, "b") + r(2, "c"), []string{"b", "c"}},
		{r(0, "b") + r(1, "c"), nil},
		{r(2, "b") + r(1, "c"), nil},
		{r(2, "c"), nil},
		{r(math.MaxUint64, "c"), nil},
		{r(1<<32+1, "c"), nil},
		{a, nil},
		{a + r(1, "b"), nil},
		{r(1, "b") + r(1, "b") + r(2, "c"), []string{"b"}},
		{r(1, "b") + r(3, "d"), []string{"b"}},
		{r(2, "c") + r(1, "b"), nil},
		{other(3) + r(2, "c"), nil},
		{other(5) + r(2, "c"), nil},
		{other(0), nil},
		{r(1, "b") + "\x00", []string{"b"}},
		{"\x00" + r(1, "b"), nil},
		{head + r(1, "b"), nil},
		{strings.Repeat("\x00", 100), nil},
		{strings.Repeat("\xff", 100), nil},
		{"\xff\xff\xff\x7f" + r(1, "b")[4:], nil},
		{"\x00\x00\x00\x80" + r(1, "b")[4:], nil},
	} {
		torn := len(x.behind)
		for _, s := range x.whole {
			torn -= 16 + len(s)
		}
		reads(t, head+a+x.behind, 4, slices.Concat([]string{"a"}, x.whole), torn)
	}
	reads(t, head+r(1, "a"), 4, nil, 17)
	reads(t, head+wantRecord(5, 0, "a"), 4, nil, 17)
	noJournal(t, a)
	noJournal(t, "x"+head)
}

// Promise 12.1: a record that is longer than one may be is none, though its sum is right; at the edge it is one.
func TestReadTooLong(t *testing.T) {
	for _, long := range []int{65536, 65537, 1 << 17} {
		file := wantFile(0, "a", strings.Repeat("r", long), "b")
		if long == 65536 {
			reads(t, file, 0, []string{"a", strings.Repeat("r", long), "b"}, 0)
			continue
		}
		reads(t, file, 0, []string{"a"}, len(file)-37)
	}
}

// Promise 12.1: fronts of 19 and of 20 bytes, right ones and wrong ones.
func TestReadFronts(t *testing.T) {
	for _, epoch := range []uint64{0, 1, math.MaxUint64} {
		head := wantHead(epoch)
		reads(t, head, epoch, nil, 0)
		reads(t, head+"\x00", epoch, nil, 1)
		noJournal(t, head[:19])
		noJournal(t, head[1:])
		noJournal(t, head[:16]+"\x00\x00\x00\x00")
		noJournal(t, "bedrockk"+head[8:])
		noJournal(t, "bedrockk"+head[8:16]+wantSum("bedrockk"+head[8:16]))
		noJournal(t, head[:16]+wantSum(head[8:16]+head[:16]))
	}
	for _, n := range []int{0, 1, 16, 19, 20, 21, 100} {
		noJournal(t, strings.Repeat("\x00", n))
		noJournal(t, strings.Repeat("\xff", n))
	}
}

// Promise 12.1: by lots, Read tells what was put together, and how much is torn.
func TestReadLots(t *testing.T) {
	lots := rand.New(rand.NewSource(12))
	for range 2000 {
		epoch := lots.Uint64() >> lots.Intn(64)
		l := make([]string, lots.Intn(8))
		for i := range l {
			b := make([]byte, lots.Intn(40))
			lots.Read(b)
			l[i] = string(b)
		}
		tail := make([]byte, lots.Intn(60))
		lots.Read(tail)
		reads(t, wantFile(epoch, l...)+string(tail), epoch, l, len(tail))
	}
}

// Promise 12.1 and rule R4: what Read hands out is memory of its own.
func TestReadMemory(t *testing.T) {
	file := wantFile(0, "a", "b", "c")
	_, one, _, _ := Read(file)
	_, two, _, _ := Read(file)
	one[0] = "changed"
	_ = append(one[:1], "over")
	if !slices.Equal(two, []string{"a", "b", "c"}) {
		t.Fatalf("another answer was changed: %q", two)
	}
}
