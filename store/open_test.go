package store

import (
	"math"
	"strconv"
	"strings"
	"testing"

	"bedrock/api"
	"bedrock/disk"
)

// The chapter's example.
func TestExample(t *testing.T) {
	s := opens(t, disk.New(), 1024)
	body := strings.Repeat("b", 500)
	puts(t, s, body, api.Pos{File: 0, At: 0, Long: 500}, api.OK)
	puts(t, s, body, api.Pos{File: 0, At: 512, Long: 500}, api.OK)
	puts(t, s, body, api.Pos{File: 1, At: 0, Long: 500}, api.OK)
	gets(t, s, api.Pos{File: 0, At: 512, Long: 500}, body, api.OK)
	gets(t, s, api.Pos{File: 0, At: 1, Long: 500}, "", api.ErrPos)
	answers(t, s.Prune(1), api.ErrPos)
	answers(t, s.Prune(0), api.OK)
}

// Promise 18.1: the record of a body of each length that may be, and of none.
func TestRecord(t *testing.T) {
	for _, long := range []int{1, 2, 255, 256, 257, 8191, 8192} {
		body := strings.Repeat("\xfe", long-1) + "\x01"
		if s, e := Record(body); s != wantRecord(body) || len(s) != 12+long || e != api.OK {
			t.Errorf("Record of %d bytes: %.40q, %d", long, s, e)
		}
	}
	for _, long := range []int{0, 8193, 8194, 1 << 16, 1 << 20} {
		if s, e := Record(strings.Repeat("b", long)); s != "" || e != api.ErrNoBody {
			t.Errorf("Record of %d bytes: %.40q, %d", long, s, e)
		}
	}
	if s, e := Record("a"); s != "body\x01\x00\x00\x00\xdd\x2f\xd2\xac"+"a" || e != api.OK {
		t.Errorf("Record: %q, %d", s, e)
	}
}

// Promise 18.1: each fault of Open alone, and of two at once the one that is named first.
func TestOpenRefuses(t *testing.T) {
	dead := func() *disk.Disk {
		d := disk.New()
		d.Crash(0, 0)
		return d
	}
	for _, most := range []int{math.MinInt, -1024, -1, 0, 1, 1023, 1<<24 + 1, 1 << 30, math.MaxInt} {
		for _, d := range []*disk.Disk{nil, disk.New(), dead()} {
			refuses(t, d, "blk", most, api.ErrArg)
			refuses(t, d, "", most, api.ErrArg)
		}
	}
	for _, most := range []int{1024, 1025, 1<<24 - 1, 1 << 24} {
		refuses(t, nil, "blk", most, api.ErrArg)
		refuses(t, nil, "B", most, api.ErrArg)
		refuses(t, disk.New(), "B", most, api.ErrName)
		refuses(t, dead(), "B", most, api.ErrName)
		refuses(t, dead(), "blk", most, api.ErrDead)
		checkTells(t, opens(t, disk.New(), most), state{}, 0)
	}
}

// Promise 18.1: names at the edges, and those that may be none.
func TestOpenNames(t *testing.T) {
	for _, name := range []string{"a", "0", ".", "-", "a-1", "blk-", strings.Repeat("n", 19), strings.Repeat("n", 20)} {
		d := disk.New()
		s, e := Open(d, name, 1024)
		answers(t, e, api.OK)
		checkCounts(t, d, 0, 0)
		puts(t, s, "b", api.Pos{Long: 1}, api.OK)
		if got, e := d.Read(name + "-0"); got != wantRecord("b") || e != api.OK || len(d.Names()) != 1 {
			t.Errorf("the file of %q: %q, %d", name, got, e)
		}
	}
	for _, name := range []string{"", "A", "a b", "a_b", "a/b", "é", "a\x00", "a\n", strings.Repeat("n", 21), strings.Repeat("n", 32), strings.Repeat("n", 33), strings.Repeat("N", 21)} {
		refuses(t, disk.New(), name, 1024, api.ErrName)
	}
	for b := range 256 {
		name := "j" + string([]byte{byte(b)})
		want := api.OK
		if !strings.Contains("abcdefghijklmnopqrstuvwxyz0123456789.-", name[1:]) {
			want = api.ErrName
		}
		_, e := Open(disk.New(), name, 1024)
		answers(t, e, want)
	}
}

// checkOpen opens a store on these files, and asks that so many bytes of the last one are cut away, and nothing else.
func checkOpen(t *testing.T, files state, last, torn int) {
	t.Helper()
	d := holding(t, files)
	made := d.Changes()
	s := opens(t, d, 1024)
	if torn > 0 {
		made++
		files[last] = files[last][:len(files[last])-torn]
	}
	checkTells(t, s, files, torn)
	checkDisk(t, d, files)
	checkCounts(t, d, made, 0)
	d.Crash(0, 0)
	d.Up()
	checkDisk(t, d, files)
	checkTells(t, opens(t, d, 1024), files, 0)
}

// Promise 18.1: the last file ends in no whole record.
func TestOpenTorn(t *testing.T) {
	checkOpen(t, state{}, 0, 0)
	checkOpen(t, state{0: ""}, 0, 0)
	checkOpen(t, state{0: wantFile("a"), 1: ""}, 1, 0)
	checkOpen(t, state{0: wantFile("a", "bb", "ccc")}, 0, 0)
	whole, next := wantFile("a", "bb"), wantRecord("next")
	for n := range len(next) {
		checkOpen(t, state{0: whole + next[:n]}, 0, n)
		checkOpen(t, state{0: next[:n]}, 0, n)
		checkOpen(t, state{3: whole, 4: next[:n]}, 4, n)
	}
	for i := range len(next) {
		for _, other := range []byte{1, 0x20, 0xff} {
			wrong := next[:i] + string([]byte{next[i] ^ other}) + next[i+1:]
			checkOpen(t, state{0: whole + wrong}, 0, len(wrong))
			checkOpen(t, state{0: whole + wrong + whole + next}, 0, len(wrong+whole+next))
		}
	}
	for _, long := range []uint32{0, 1, 3, 5, 12, 100, 8192, 8193, 1 << 24, 1 << 31, 1<<32 - 4, 1<<32 - 1} {
		wrong := headOf(long, "next") + "next"
		checkOpen(t, state{0: whole + wrong + whole}, 0, len(wrong+whole))
	}
	for _, long := range []int{0, 8193, 1 << 15} {
		body := strings.Repeat("z", long)
		wrong := wantRecord(body)
		checkOpen(t, state{0: wrong}, 0, len(wrong))
		checkOpen(t, state{0: whole + wrong + whole}, 0, len(wrong+whole))
	}
	for _, tail := range []string{"\x00", "b", "body", "\x00" + next, "ody", strings.Repeat("\x00", 900), strings.Repeat("body", 100)} {
		checkOpen(t, state{0: whole + tail}, 0, len(tail))
	}
	longest := strings.Repeat("z", 8192)
	checkOpen(t, state{0: wantFile(longest, longest)}, 0, 0)
	checkOpen(t, state{0: wantFile(longest, longest) + "body"}, 0, 4)
}

// Promise 18.1: files that are not the last one are as they are, also with faults; numbers may be missing.
func TestOpenOtherFiles(t *testing.T) {
	torn := wantFile("a") + wantRecord("bb")[:7]
	checkOpen(t, state{0: torn, 1: wantFile("c")}, 1, 0)
	checkOpen(t, state{0: torn, 1: torn}, 1, 7)
	checkOpen(t, state{0: "", 1: "x", 2: ""}, 2, 0)
	checkOpen(t, state{2: torn, 9: "body", 10: torn}, 10, 7)
	checkOpen(t, state{2: torn, 9: torn}, 9, 7)
	checkOpen(t, state{31: torn}, 31, 7)
	checkOpen(t, state{0: torn, 31: torn}, 31, 7)
	every := state{}
	for n := range 32 {
		every[n] = torn
	}
	checkOpen(t, every, 31, 7)
}

// Promise 18.1: files that are none of the store's are neither told nor changed.
func TestOpenOtherNames(t *testing.T) {
	d := holding(t, state{0: wantFile("a"), 2: wantFile("b") + "x"})
	others := []string{
		"blk", "blk-", "blk-00", "blk-01", "blk-02", "blk-03", "blk-002", "blk-031", "blk-32", "blk-33", "blk-64", "blk-100", "blk-99999999999999999999",
		"blk--1", "blk-1-0", "blk-5-", "blk--5", "blk-3x", "blk-x3", "blk.3", "blk3", "blk-3.", "blk-4.tmp", "blk-0x1", "xblk-7", "bl-7", "blkk-7", "-7", "7", "blk-3e0",
	}
	for _, name := range others {
		answers(t, d.Write(name, 0, "other"), api.OK)
	}
	answers(t, d.Sync(), api.OK)
	s := opens(t, d, 1024)
	checkTells(t, s, state{0: wantFile("a"), 2: wantFile("b")}, 1)
	puts(t, s, "c", api.Pos{File: 2, At: 13, Long: 1}, api.OK)
	puts(t, s, strings.Repeat("d", 1012), api.Pos{File: 3, Long: 1012}, api.OK)
	answers(t, s.Prune(0), api.OK)
	for _, n := range []int{1, 5, 7, 32, 33, 64, 100, -1, -5} {
		answers(t, s.Prune(n), api.ErrPos)
	}
	for _, name := range others {
		if got, e := d.Read(name); got != "other" || e != api.OK {
			t.Errorf("%s: %q, %d", name, got, e)
		}
	}
}

// Promise 18.1: stores whose names begin alike stand beside one another.
func TestStoresBeside(t *testing.T) {
	d := disk.New()
	names := []string{"blk", "blk-", "blk-1", "blk-1-1", "b", "-"}
	var stores []*Store
	for _, name := range names {
		s, e := Open(d, name, 1024)
		answers(t, e, api.OK)
		stores = append(stores, s)
	}
	for n := range 3 {
		for i, s := range stores {
			body := strings.Repeat(strconv.Itoa(i), 600+i)
			puts(t, s, body, api.Pos{File: n, Long: 600 + i}, api.OK)
		}
	}
	for i, s := range stores {
		record := wantRecord(strings.Repeat(strconv.Itoa(i), 600+i))
		answers(t, s.Prune(0), api.OK)
		checkTells(t, s, state{1: record, 2: record}, 0)
	}
}

// Promise 18.1: the power fails at the cut of Open, at its Sync, and ahead of it.
func TestOpenFalls(t *testing.T) {
	torn := wantFile("a") + wantRecord("bb")[:9]
	for _, x := range []struct {
		fall api.Fall // at a number of changes from Open on
		left string
	}{
		{api.Fall{At: 0, Keep: 9, Torn: 9}, torn},
		{api.Fall{At: 1, Keep: 0, Torn: 9, Sync: true}, torn},
		{api.Fall{At: 1, Keep: 1, Sync: true}, wantFile("a")},
	} {
		d := holding(t, state{0: "x", 1: torn})
		x.fall.At += d.Changes()
		d.Plan([]api.Fall{x.fall})
		refuses(t, d, "blk", 1024, api.ErrDead)
		refuses(t, d, "blk", 1024, api.ErrDead)
		d.Up()
		checkDisk(t, d, state{0: "x", 1: x.left})
		checkTells(t, opens(t, d, 1024), state{0: "x", 1: wantFile("a")}, len(x.left)-13)
	}
}

// Promise 18.1: where nothing is to be cut away nothing is synced, and what is cut away makes all sure.
func TestOpenSyncs(t *testing.T) {
	d := disk.New()
	answers(t, d.Write("blk-0", 0, wantFile("a")), api.OK)
	answers(t, d.Write("other", 0, "x"), api.OK)
	opens(t, d, 1024)
	checkCounts(t, d, 2, 2)
	answers(t, d.Append("blk-0", "x"), api.OK)
	opens(t, d, 1024)
	checkCounts(t, d, 4, 0)
	if sure := d.Sure(); sure["blk-0"] != wantFile("a") || sure["other"] != "x" {
		t.Errorf("Sure: %q", sure)
	}
}
