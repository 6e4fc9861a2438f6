package store

import (
	"math"
	"slices"
	"strconv"
	"strings"
	"testing"

	"bedrock/api"
	"bedrock/disk"
)

// text is a body of so many bytes that is like no other one's.
func text(long, seed int) string {
	head := strconv.Itoa(seed) + ":"
	return (head + strings.Repeat(string(rune('a'+seed%26)), long))[:long]
}

// Promise 18.2: files are filled up to their last byte, and not beyond it, up to the last one that may be.
func TestPutFills(t *testing.T) {
	for _, most := range []int{1024, 1025, 2000} {
		d := disk.New()
		s := opens(t, d, most)
		want := state{}
		for n := range 32 {
			first, rest := text(100+n, n), text(most-124-100-n, n)
			puts(t, s, first, api.Pos{File: n, Long: len(first)}, api.OK)
			puts(t, s, rest, api.Pos{File: n, At: len(first) + 12, Long: len(rest)}, api.OK)
			want[n] = wantFile(first, rest, strings.Repeat("z", 88))
			puts(t, s, strings.Repeat("z", 88), api.Pos{File: n, At: most - 100, Long: 88}, api.OK)
			if len(want[n]) != most {
				t.Fatal("the test does not fill the file", len(want[n]))
			}
		}
		made := d.Changes()
		for _, long := range []int{1, 2, most - 12, most, 8192} {
			puts(t, s, text(long, 1), api.Pos{}, api.ErrStore)
		}
		puts(t, s, "", api.Pos{}, api.ErrNoBody)
		puts(t, s, strings.Repeat("z", 8193), api.Pos{}, api.ErrNoBody)
		checkCounts(t, d, made, made)
		checkTells(t, s, want, 0)
		checkDisk(t, d, want)
	}
}

// Promise 18.2: a body that is one byte too long for what is left goes into the next file; the one ahead is not put into any more.
func TestPutNext(t *testing.T) {
	for _, x := range []struct{ first, next, file int }{
		{500, 499, 0}, {500, 500, 0}, {500, 501, 1}, {1, 999, 0}, {1, 1000, 1}, {999, 1, 0}, {1000, 1, 1}, {1011, 1, 1}, {1012, 1, 1}, {1012, 1012, 1},
		{1, 8192, 1}, {8192, 1, 1}, {8192, 8192, 1}, {1013, 1, 1}, {1, 1013, 1},
	} {
		s := opens(t, disk.New(), 1024)
		at := 0
		if x.file == 0 {
			at = 12 + x.first
		}
		puts(t, s, text(x.first, 0), api.Pos{Long: x.first}, api.OK)
		puts(t, s, text(x.next, 1), api.Pos{File: x.file, At: at, Long: x.next}, api.OK)
		gets(t, s, api.Pos{Long: x.first}, text(x.first, 0), api.OK)
		gets(t, s, api.Pos{File: x.file, At: at, Long: x.next}, text(x.next, 1), api.OK)
		if x.file == 1 && x.next < 1000 {
			puts(t, s, "b", api.Pos{File: 1, At: 12 + x.next, Long: 1}, api.OK)
		}
	}
}

// Promise 18.2: in the last file that may be there is room for what fits, also behind a body that did not.
func TestPutLast(t *testing.T) {
	d := holding(t, state{31: wantFile(text(900, 0))})
	s := opens(t, d, 1024)
	puts(t, s, text(101, 1), api.Pos{}, api.ErrStore)
	puts(t, s, text(100, 1), api.Pos{File: 31, At: 912, Long: 100}, api.OK)
	puts(t, s, "b", api.Pos{}, api.ErrStore)
	d = holding(t, state{30: wantFile(text(1000, 0))})
	s = opens(t, d, 1024)
	puts(t, s, text(8192, 1), api.Pos{File: 31, Long: 8192}, api.OK)
	puts(t, s, "b", api.Pos{}, api.ErrStore)
	answers(t, s.Prune(30), api.OK)
	puts(t, s, "b", api.Pos{}, api.ErrStore)
	s = opens(t, d, 8300)
	puts(t, s, "b", api.Pos{File: 31, At: 8204, Long: 1}, api.OK)
}

// Promise 18.2: the last file is the greatest one that is there, also where numbers are missing; it may be empty, or longer than another most.
func TestPutBehind(t *testing.T) {
	for _, x := range []struct {
		files state
		body  string
		want  api.Pos
	}{
		{state{0: ""}, "b", api.Pos{Long: 1}},
		{state{5: ""}, text(1012, 1), api.Pos{File: 5, Long: 1012}},
		{state{5: ""}, text(1013, 1), api.Pos{File: 6, Long: 1013}},
		{state{0: "", 7: wantFile("a")}, "b", api.Pos{File: 7, At: 13, Long: 1}},
		{state{9: wantFile("a"), 10: wantFile("a", "a")}, "b", api.Pos{File: 10, At: 26, Long: 1}},
		{state{9: wantFile("a"), 2: ""}, text(1000, 1), api.Pos{File: 10, Long: 1000}},
		{state{4: wantFile(text(8192, 1))}, "b", api.Pos{File: 5, Long: 1}},
		{state{0: wantFile("a") + "torn"}, "b", api.Pos{At: 13, Long: 1}},
		{state{0: "torn"}, "b", api.Pos{Long: 1}},
		{state{0: wantFile("a") + "torn", 1: "torn"}, "b", api.Pos{File: 1, Long: 1}},
	} {
		s := opens(t, holding(t, x.files), 1024)
		puts(t, s, x.body, x.want, api.OK)
		gets(t, s, x.want, x.body, api.OK)
	}
}

// Promise 18.2: the greatest most: a file has as many bytes as a disk lets it have.
func TestPutGreatest(t *testing.T) {
	d := disk.New()
	s := opens(t, d, 1<<24)
	answers(t, d.Write("blk-0", 0, strings.Repeat("\x00", 1<<24-13)), api.OK)
	puts(t, s, "bb", api.Pos{File: 1, Long: 2}, api.OK)
	answers(t, s.Prune(0), api.OK)
	answers(t, d.Write("blk-1", 14, strings.Repeat("\x00", 1<<24-27)), api.OK)
	puts(t, s, "b", api.Pos{File: 1, At: 1<<24 - 13, Long: 1}, api.OK)
	puts(t, s, "b", api.Pos{File: 2, Long: 1}, api.OK)
	gets(t, s, api.Pos{File: 1, At: 1<<24 - 13, Long: 1}, "b", api.OK)
}

// Promise 18.2: the disk's errors: it is dead, it falls at the call, it has no room for one more file.
func TestPutErrors(t *testing.T) {
	d := disk.New()
	s := opens(t, d, 1024)
	puts(t, s, "a", api.Pos{Long: 1}, api.OK)
	d.Plan([]api.Fall{{At: 1, Keep: 1}})
	puts(t, s, "b", api.Pos{}, api.ErrDead)
	checkDead(t, s, d, state{0: wantFile("a")}, 0)
	d.Up()
	checkTells(t, s, state{0: wantFile("a")}, 0)
	puts(t, s, "b", api.Pos{At: 13, Long: 1}, api.OK)

	empty := disk.New()
	s = opens(t, empty, 1024)
	empty.Crash(0, 0)
	checkDead(t, s, empty, state{}, 0)

	full := disk.New()
	for i := range 63 {
		answers(t, full.Write("other"+strconv.Itoa(i), 0, ""), api.OK)
	}
	s = opens(t, full, 1024)
	puts(t, s, "a", api.Pos{Long: 1}, api.OK)
	puts(t, s, text(1000, 1), api.Pos{}, api.ErrFull)
	puts(t, s, "b", api.Pos{At: 13, Long: 1}, api.OK)
	checkTells(t, s, state{0: wantFile("a", "b")}, 0)
}

// Promise 18.2: Flush makes all changes sure, and falls with the disk.
func TestFlush(t *testing.T) {
	d := disk.New()
	s := opens(t, d, 1024)
	answers(t, s.Flush(), api.OK)
	puts(t, s, "a", api.Pos{Long: 1}, api.OK)
	puts(t, s, text(1000, 1), api.Pos{File: 1, Long: 1000}, api.OK)
	checkCounts(t, d, 2, 2)
	answers(t, s.Flush(), api.OK)
	checkCounts(t, d, 2, 0)
	puts(t, s, "c", api.Pos{File: 2, Long: 1}, api.OK)
	d.Crash(0, 0)
	answers(t, s.Flush(), api.ErrDead)
	d.Up()
	checkTells(t, s, state{0: wantFile("a"), 1: wantFile(text(1000, 1))}, 0)
	puts(t, s, "c", api.Pos{File: 2, Long: 1}, api.OK)
	d.Plan([]api.Fall{{At: d.Changes(), Keep: 1, Sync: true}})
	answers(t, s.Flush(), api.ErrDead)
	checkDead(t, s, d, state{0: "", 1: "", 2: ""}, 0)
}

// Promise 18.3: Get of every place and length about every body, and of those far off.
func TestGet(t *testing.T) {
	bodies := []string{"a", "bb", text(300, 3), "d", text(600, 5), "f"}
	d := disk.New()
	s := opens(t, d, 1024)
	put := map[api.Pos]string{}
	for _, body := range bodies {
		p, e := s.Put(body)
		answers(t, e, api.OK)
		put[p] = body
	}
	longs := []int{math.MinInt, -12, -1, 0, 1, 2, 3, 299, 300, 301, 599, 600, 601, 8192, 8193, math.MaxInt - 12, math.MaxInt - 11, math.MaxInt}
	for file := -1; file < 4; file++ {
		for at := -20; at < 1100; at++ {
			for _, long := range longs {
				p := api.Pos{File: file, At: at, Long: long}
				body, there := put[p]
				want := api.OK
				if !there {
					want = api.ErrPos
				}
				gets(t, s, p, body, want)
			}
		}
	}
	for _, far := range []int{math.MinInt, math.MinInt + 1, -1 << 32, 32, 1 << 24, 1 << 32, math.MaxInt - 1, math.MaxInt} {
		gets(t, s, api.Pos{File: far, Long: 1}, "", api.ErrPos)
		gets(t, s, api.Pos{At: far, Long: 1}, "", api.ErrPos)
		gets(t, s, api.Pos{File: far, At: far, Long: far}, "", api.ErrPos)
	}
}

// Promise 18.3: of what was changed on the disk behind a store's back nothing that is not right is told.
func TestGetSpoiled(t *testing.T) {
	record := wantRecord("bodies")
	for i := range len(record) {
		d := holding(t, state{0: record + record, 1: ""})
		s := opens(t, d, 1024)
		answers(t, d.Write("blk-0", i, string([]byte{record[i] ^ 0x40})), api.OK)
		gets(t, s, api.Pos{Long: 6}, "", api.ErrPos)
		gets(t, s, api.Pos{At: len(record), Long: 6}, "bodies", api.OK)
		places, left, e := s.Scan(0)
		if len(places) != 0 || left != 2*len(record) || e != api.OK {
			t.Fatalf("Scan of a spoiled file: %v, %d, %d", places, left, e)
		}
	}
	for _, long := range []int{0, 8193} {
		d := holding(t, state{0: wantRecord(strings.Repeat("z", long)), 1: ""})
		gets(t, opens(t, d, 1024), api.Pos{Long: long}, "", api.ErrPos)
	}
	for n := range len(record) {
		d := holding(t, state{0: record[:n], 1: ""})
		gets(t, opens(t, d, 1024), api.Pos{Long: 6}, "", api.ErrPos)
	}
}

// Promise 18.3: Scan of files that are whole, torn ones and empty ones; what is told is memory of its own.
func TestScan(t *testing.T) {
	torn := wantFile("a", "bb", text(300, 1)) + wantRecord("c")[:5]
	files := state{0: torn, 1: wantFile("d", "e"), 2: "", 3: "torn", 4: wantFile("f") + "x" + wantFile("g"), 6: wantFile(text(1012, 6))}
	s := opens(t, holding(t, files), 1024)
	checkTells(t, s, files, 0)
	places, left, e := s.Scan(0)
	want := []api.Pos{{At: 0, Long: 1}, {At: 13, Long: 2}, {At: 27, Long: 300}}
	if !slices.Equal(places, want) || left != 5 || e != api.OK {
		t.Errorf("Scan: %v, %d, %d", places, left, e)
	}
	spare := places[:cap(places)]
	for i := range spare {
		spare[i] = api.Pos{File: 9, At: 9, Long: 9}
	}
	numbers := s.Files()
	spareNumbers := numbers[:cap(numbers)]
	for i := range spareNumbers {
		spareNumbers[i] = 9
	}
	checkTells(t, s, files, 0)
}

// Promise 18.3: what is pruned is gone, and what is last can't be.
func TestPrune(t *testing.T) {
	d := disk.New()
	s := opens(t, d, 1024)
	for _, n := range []int{math.MinInt, -1, 0, 1, 31, 32, math.MaxInt} {
		answers(t, s.Prune(n), api.ErrPos)
	}
	want := state{}
	for n := range 4 {
		puts(t, s, text(1000, n), api.Pos{File: n, Long: 1000}, api.OK)
		want[n] = wantFile(text(1000, n))
	}
	for _, n := range []int{math.MinInt, -1, 3, 4, 31, 32, math.MaxInt} {
		answers(t, s.Prune(n), api.ErrPos)
	}
	checkTells(t, s, want, 0)
	for _, n := range []int{1, 0, 2} {
		answers(t, s.Prune(n), api.OK)
		delete(want, n)
		answers(t, s.Prune(n), api.ErrPos)
		gets(t, s, api.Pos{File: n, Long: 1000}, "", api.ErrPos)
		checkTells(t, s, want, 0)
		checkDisk(t, d, want)
	}
	answers(t, s.Prune(3), api.ErrPos)
	puts(t, s, "b", api.Pos{File: 4, Long: 1}, api.OK)
	answers(t, s.Prune(3), api.OK)
	puts(t, s, "b", api.Pos{File: 4, At: 13, Long: 1}, api.OK)
	checkTells(t, s, state{4: wantFile("b", "b")}, 0)
}

// Promise 18.3: a Prune that falls, and one that was not sure.
func TestPruneFalls(t *testing.T) {
	files := state{0: wantFile("a"), 1: wantFile("b"), 2: wantFile("c")}
	d := holding(t, files)
	s := opens(t, d, 1024)
	d.Plan([]api.Fall{{At: d.Changes()}})
	answers(t, s.Prune(3), api.ErrPos)
	answers(t, s.Prune(2), api.ErrPos)
	answers(t, s.Prune(1), api.ErrDead)
	checkDead(t, s, d, files, 0)
	d.Up()
	answers(t, s.Prune(1), api.OK)
	d.Crash(0, 0)
	d.Up()
	checkTells(t, s, files, 0)
	answers(t, s.Prune(0), api.OK)
	answers(t, s.Flush(), api.OK)
	d.Crash(0, 0)
	checkDead(t, s, d, state{1: files[1], 2: files[2]}, 0)
	d.Up()
	checkTells(t, s, state{1: files[1], 2: files[2]}, 0)
}

// Promise 18.4: Torn stays what Open cut away.
func TestTornStays(t *testing.T) {
	d := holding(t, state{0: wantFile("a") + "torn"})
	s := opens(t, d, 1024)
	puts(t, s, "b", api.Pos{At: 13, Long: 1}, api.OK)
	checkTells(t, s, state{0: wantFile("a", "b")}, 4)
	answers(t, s.Flush(), api.OK)
	d.Crash(0, 0)
	checkDead(t, s, d, state{0: ""}, 4)
	d.Up()
	checkTells(t, s, state{0: wantFile("a", "b")}, 4)
	checkTells(t, opens(t, d, 1024), state{0: wantFile("a", "b")}, 0)
}

// Promise 18.4: each call on a nil Store.
func TestNil(t *testing.T) {
	var s *Store
	for _, long := range []int{0, 1, 8192, 8193} {
		puts(t, s, text(long, 1), api.Pos{}, api.ErrNoBody)
	}
	for _, n := range []int{-1, 0, 1} {
		gets(t, s, api.Pos{File: n, Long: 1}, "", api.ErrPos)
		if l, left, e := s.Scan(n); l != nil || left != 0 || e != api.ErrPos {
			t.Errorf("Scan: %v, %d, %d", l, left, e)
		}
		answers(t, s.Prune(n), api.ErrPos)
	}
	answers(t, s.Flush(), api.ErrDead)
	if len(s.Files()) != 0 || s.Size() != 0 || s.Torn() != 0 {
		t.Error("a nil store tells something")
	}
}
