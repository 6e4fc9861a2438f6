package journal

import (
	"math"
	"slices"
	"strings"
	"testing"

	"bedrock/api"
	"bedrock/disk"
)

// The chapter's example.
func TestExample(t *testing.T) {
	for _, torn := range []int{0, 5} {
		d := disk.New()
		j := opens(t, d, "j")
		adds(t, j, "a")
		answers(t, j.Flush(), api.OK)
		adds(t, j, "b")
		d.Crash(0, torn)
		d.Up()
		checkTells(t, opens(t, d, "j"), 0, []string{"a"}, torn, false)
	}
	d := holding(t, strings.Repeat("\x00", 19))
	checkTells(t, opens(t, d, "j"), 0, nil, 0, false)
	refuses(t, holding(t, strings.Repeat("\x00", 20)), "j", api.ErrHead)
}

// Promise 12.2: names at the edges, and names that may be none; their error comes ahead of the disk's.
func TestOpenNames(t *testing.T) {
	for _, name := range []string{"a", "z", "0", "9", ".", "-", "j.tmp", "a-b.c", "index", strings.Repeat("n", 27), strings.Repeat("n", 28)} {
		d := disk.New()
		checkTells(t, opens(t, d, name), 0, nil, 0, false)
		checkNames(t, d, name)
		checkFile(t, d, name, wantFile(0))
		d.Crash(0, 0)
		refuses(t, d, name, api.ErrDead)
	}
	wrong := []string{"", "A", "a b", "a_b", "a/b", "ab\x00", "é", "a\n", "tmp~", "jZ"}
	for _, long := range []int{29, 30, 31, 32, 33, 100} {
		wrong = append(wrong, strings.Repeat("n", long))
	}
	for _, name := range wrong {
		d := disk.New()
		refuses(t, d, name, api.ErrName)
		checkCounts(t, d, 0, 0)
		d.Crash(0, 0)
		refuses(t, d, name, api.ErrName)
		refuses(t, nil, name, api.ErrArg)
	}
	for b := range 256 {
		name := "j" + string([]byte{byte(b)})
		want := api.OK
		if !strings.Contains("abcdefghijklmnopqrstuvwxyz0123456789.-", name[1:]) {
			want = api.ErrName
		}
		_, e := Open(disk.New(), name)
		answers(t, e, want)
	}
}

// Promise 12.2: a nil disk, and a dead one, whatever stands on it.
func TestOpenNoDisk(t *testing.T) {
	refuses(t, nil, "j", api.ErrArg)
	for _, s := range []string{"", "short", wantFile(0, "a"), strings.Repeat("\x00", 20)} {
		d := holding(t, s)
		d.Crash(0, 0)
		refuses(t, d, "j", api.ErrDead)
		d.Up()
		checkFile(t, d, "j", s)
	}
}

// Promise 12.2: of a file that is not there, or has fewer than 20 bytes, one is written in its place, and synced.
func TestOpenShort(t *testing.T) {
	d := disk.New()
	checkTells(t, opens(t, d, "j"), 0, nil, 0, false)
	checkCounts(t, d, 1, 0)
	checkFile(t, d, "j", wantFile(0))
	for n := range 20 {
		for _, front := range []string{wantHead(0), wantHead(7), strings.Repeat("\xff", 20)} {
			d := holding(t, front[:n])
			checkTells(t, opens(t, d, "j"), 0, nil, 0, false)
			checkNames(t, d, "j")
			checkFile(t, d, "j", wantFile(0))
			checkCounts(t, d, 2, 0)
			if d.Sure()["j"] != wantFile(0) {
				t.Fatal("it is not sure")
			}
		}
	}
}

// Promise 12.2: of a front that is not right nothing is changed, not even what stands aside, or what is loose.
func TestOpenWrongFront(t *testing.T) {
	right := wantFile(1, "a", "b")
	for i := range 20 {
		b := []byte(right)
		b[i] ^= 1
		for _, s := range []string{string(b), string(b[:20])} {
			d := holding(t, s)
			answers(t, d.Write("j.tmp", 0, "aside"), api.OK)
			was := lookAt(t, d)
			refuses(t, d, "j", api.ErrHead)
			checkLook(t, d, was)
		}
	}
	d := holding(t, strings.Repeat("x", 1000))
	full(t, d, 64)
	refuses(t, d, "j", api.ErrHead)
}

// Promise 12.2: what is whole and right is told, and nothing is done to the disk; an epoch is as the front says.
func TestOpenWhole(t *testing.T) {
	for _, epoch := range []uint64{0, 1, math.MaxUint64} {
		for _, l := range [][]string{nil, {""}, {"a", "", strings.Repeat("L", 65536), "b"}} {
			d := holding(t, wantFile(epoch, l...))
			was := lookAt(t, d)
			checkTells(t, opens(t, d, "j"), epoch, l, 0, false)
			checkLook(t, d, was)
		}
	}
}

// Promise 12.2: a torn tail is cut away, and that is synced.
func TestOpenTorn(t *testing.T) {
	l := []string{"first", "", "third one"}
	file := wantFile(2, l...)
	for _, tail := range []string{"\x00", "tail", wantRecord(2, 3, "next")[:19], wantRecord(2, 4, "far"), wantRecord(1, 3, "old") + wantRecord(2, 3, "late"), strings.Repeat("x", 70000)} {
		d := holding(t, file+tail)
		checkTells(t, opens(t, d, "j"), 2, l, len(tail), false)
		checkFile(t, d, "j", file)
		checkCounts(t, d, 2, 0)
		checkTells(t, opens(t, d, "j"), 2, l, 0, false)
		checkCounts(t, d, 2, 0)
	}
	for n := 20; n < len(file); n++ {
		d := holding(t, file[:n])
		_, whole, torn, _ := Read(file[:n])
		j := opens(t, d, "j")
		checkTells(t, j, 2, whole, torn, false)
		adds(t, j, "behind")
		checkFile(t, d, "j", wantFile(2, slices.Concat(whole, []string{"behind"})...))
	}
}

// Promise 12.2: what stands under the name and .tmp is removed, whatever it is; other files stay.
func TestOpenAside(t *testing.T) {
	for _, x := range []struct {
		file    string
		records []string
		torn    int
	}{
		{"", nil, 0},
		{"short", nil, 0},
		{wantFile(0, "a"), []string{"a"}, 0},
		{wantFile(0, "a") + "tail", []string{"a"}, 4},
	} {
		for _, aside := range []string{"", "x", wantFile(1, "new"), strings.Repeat("\x00", 20)} {
			d := holding(t, x.file)
			for _, name := range []string{"j.tmp", "j.tmp.tmp", "i.tmp", "k", ".tmp", "tmp"} {
				answers(t, d.Write(name, 0, aside), api.OK)
			}
			answers(t, d.Sync(), api.OK)
			checkTells(t, opens(t, d, "j"), 0, x.records, x.torn, false)
			checkNames(t, d, ".tmp", "i.tmp", "j", "j.tmp.tmp", "k", "tmp")
			checkFile(t, d, "j", wantFile(0, x.records...))
		}
	}
}

// Promise 12.2: a file that stands aside alone is no journal: one without records is begun.
func TestOpenAsideAlone(t *testing.T) {
	d := disk.New()
	answers(t, d.Write("j.tmp", 0, wantFile(1, "new")), api.OK)
	checkTells(t, opens(t, d, "j"), 0, nil, 0, false)
	checkNames(t, d, "j")
	checkCounts(t, d, 3, 0)
}

// Promise 12.2: the errors of a disk whose names are used up; what stands aside makes room.
func TestOpenFull(t *testing.T) {
	d := disk.New()
	full(t, d, 64)
	was := lookAt(t, d)
	refuses(t, d, "j", api.ErrFull)
	checkLook(t, d, was)
	answers(t, d.Move("other-aa", "j.tmp"), api.OK)
	checkTells(t, opens(t, d, "j"), 0, nil, 0, false)
	checkNames(t, d, append([]string{"j"}, d.Names()[1:]...)...)
	if len(d.Names()) != 64 {
		t.Fatal(len(d.Names()), "files")
	}
	d = holding(t, "short")
	full(t, d, 64)
	checkTells(t, opens(t, d, "j"), 0, nil, 0, false)
}

// Promise 12.6: opening twice is as once, with the first one still there.
func TestOpenTwice(t *testing.T) {
	d := disk.New()
	one := opens(t, d, "j")
	adds(t, one, "a", "b")
	two := opens(t, d, "j")
	checkTells(t, two, 0, []string{"a", "b"}, 0, false)
	checkCounts(t, d, 3, 2)
	answers(t, two.Flush(), api.OK)
	adds(t, two, "c")
	checkTells(t, one, 0, []string{"a", "b"}, 0, false)
	checkTells(t, opens(t, d, "j"), 0, []string{"a", "b", "c"}, 0, false)
}

// Promise 12.2: journals of several names stand on one disk, each by itself.
func TestOpenSeveral(t *testing.T) {
	d := disk.New()
	a, b := opens(t, d, "a"), opens(t, d, "b")
	adds(t, a, "1", "2")
	adds(t, b, "3")
	answers(t, b.Renew([]string{"4", "5", "6"}), api.OK)
	answers(t, a.Cut(1), api.OK)
	checkTells(t, opens(t, d, "a"), 0, []string{"1"}, 0, false)
	checkTells(t, opens(t, d, "b"), 1, []string{"4", "5", "6"}, 0, false)
}
