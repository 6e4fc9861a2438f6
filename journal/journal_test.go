package journal

import (
	"math"
	"slices"
	"strings"
	"testing"

	"bedrock/api"
	"bedrock/disk"
)

// began is a journal with these records, which are sure.
func began(t *testing.T, l ...string) (*disk.Disk, *Journal) {
	t.Helper()
	d := holding(t, wantFile(0, l...))
	return d, opens(t, d, "j")
}

// tooLong is a record of one byte more than there may be.
func tooLong() string { return strings.Repeat("r", 65537) }

// Promise 12.3: each record stands behind the others, loose until Flush; records of all lengths at the edges.
func TestAdd(t *testing.T) {
	d, j := began(t)
	var l []string
	for i, s := range []string{"a", "", "\x00", strings.Repeat("L", 65536), "b", "", strings.Repeat("l", 65535)} {
		adds(t, j, s)
		l = append(l, s)
		checkTells(t, j, 0, l, 0, false)
		checkFile(t, d, "j", wantFile(0, l...))
		checkCounts(t, d, 2+i, 1+i)
	}
	if d.Sure()["j"] != wantFile(0) {
		t.Fatal("records are sure ahead of Flush")
	}
	answers(t, j.Flush(), api.OK)
	checkCounts(t, d, 8, 0)
	checkTells(t, j, 0, l, 0, false)
	was := lookAt(t, d)
	answers(t, j.Add(tooLong()), api.ErrRecord)
	checkLook(t, d, was)
	checkTells(t, j, 0, l, 0, false)
}

// Promise 12.3: a file that can take no more is no end of a journal.
func TestAddFull(t *testing.T) {
	l := make([]string, 255)
	for i := range l {
		l[i] = strings.Repeat("f", 65536)
	}
	d, j := began(t, l...)
	left := 1<<24 - j.Size()
	answers(t, j.Add(strings.Repeat("x", left-15)), api.ErrFull)
	checkTells(t, j, 0, l, 0, false)
	checkCounts(t, d, 1, 0)
	last := strings.Repeat("x", left-16)
	adds(t, j, last)
	checkTells(t, j, 0, append(l, last), 0, false)
	answers(t, j.Add(""), api.ErrFull)
	answers(t, j.Flush(), api.OK)
	answers(t, j.Cut(1), api.OK)
	adds(t, j, "again")
	checkFile(t, d, "j", wantFile(0, l[0], "again"))
	checkTells(t, j, 0, []string{l[0], "again"}, 0, false)
}

// Promise 12.3: Cut at each edge: its records are the first ones, loose until Flush, and others stand behind these.
func TestCut(t *testing.T) {
	l := []string{"a", "", "ccc", "dddd"}
	for n := range len(l) + 1 {
		d, j := began(t, l...)
		answers(t, j.Cut(n), api.OK)
		checkTells(t, j, 0, l[:n], 0, false)
		checkFile(t, d, "j", wantFile(0, l[:n]...))
		checkCounts(t, d, 2, 1)
		if d.Sure()["j"] != wantFile(0, l...) {
			t.Fatal("a cut is sure ahead of Flush")
		}
		adds(t, j, "new", "ones")
		checkTells(t, j, 0, slices.Concat(l[:n], []string{"new", "ones"}), 0, false)
		checkFile(t, d, "j", wantFile(0, slices.Concat(l[:n], []string{"new", "ones"})...))
		answers(t, j.Flush(), api.OK)
		checkCounts(t, d, 4, 0)
	}
	d, j := began(t, l...)
	was := lookAt(t, d)
	for _, n := range []int{math.MinInt, -1, 5, 6, math.MaxInt} {
		answers(t, j.Cut(n), api.ErrArg)
		checkLook(t, d, was)
		checkTells(t, j, 0, l, 0, false)
	}
}

// Promise 12.3: Renew writes aside, syncs, moves, syncs; the epoch goes on by one, and other records stand behind the new ones.
func TestRenew(t *testing.T) {
	long := strings.Repeat("L", 65536)
	for _, old := range [][]string{nil, {"a"}, {"a", long, ""}} {
		d, j := began(t, old...)
		adds(t, j, "loose")
		for i, l := range [][]string{nil, {}, {""}, {"x", "y"}, {long, "", "z"}, {"x"}} {
			answers(t, j.Renew(l), api.OK)
			epoch := uint64(i + 1)
			checkTells(t, j, epoch, l, 0, false)
			checkNames(t, d, "j")
			checkFile(t, d, "j", wantFile(epoch, l...))
			checkCounts(t, d, 4+2*i, 0)
			checkTells(t, opens(t, d, "j"), epoch, l, 0, false)
		}
		adds(t, j, "behind")
		checkFile(t, d, "j", wantFile(6, "x", "behind"))
		checkTells(t, opens(t, d, "j"), 6, []string{"x", "behind"}, 0, false)
	}
}

// Promise 12.3: what stands aside already is not mixed with what is renewed, though its epoch and numbers would be right.
func TestRenewAside(t *testing.T) {
	for _, aside := range []string{"", "x", wantFile(1, "a", "b", "c"), strings.Repeat("\x00", 500)} {
		d, j := began(t, "old")
		answers(t, d.Write("j.tmp", 0, aside), api.OK)
		answers(t, j.Renew([]string{"n"}), api.OK)
		checkTells(t, j, 1, []string{"n"}, 0, false)
		checkNames(t, d, "j")
		checkFile(t, d, "j", wantFile(1, "n"))
	}
}

// Promise 12.3: the errors of Renew that do no harm: one record that is too long, at whatever place, and an epoch that can't go on.
func TestRenewRefused(t *testing.T) {
	d, j := began(t, "a", "b")
	was := lookAt(t, d)
	for _, l := range [][]string{{tooLong()}, {"x", tooLong()}, {tooLong(), "x"}, {"", tooLong(), tooLong()}} {
		answers(t, j.Renew(l), api.ErrRecord)
		checkLook(t, d, was)
		checkTells(t, j, 0, []string{"a", "b"}, 0, false)
	}
	d = holding(t, wantFile(math.MaxUint64, "a"))
	j = opens(t, d, "j")
	was = lookAt(t, d)
	answers(t, j.Renew([]string{"x"}), api.ErrEpoch)
	answers(t, j.Renew(nil), api.ErrEpoch)
	answers(t, j.Renew([]string{"x", tooLong()}), api.ErrRecord)
	checkLook(t, d, was)
	checkTells(t, j, math.MaxUint64, []string{"a"}, 0, false)
	adds(t, j, "b")
	checkFile(t, d, "j", wantFile(math.MaxUint64, "a", "b"))
	d = holding(t, wantFile(math.MaxUint64-1, "a"))
	j = opens(t, d, "j")
	answers(t, j.Renew([]string{"x"}), api.OK)
	checkTells(t, opens(t, d, "j"), math.MaxUint64, []string{"x"}, 0, false)
	answers(t, j.Renew(nil), api.ErrEpoch)
}

// checkDead asks that nothing can be done to a journal any more, ahead of all other errors, and that it tells what it told.
func checkDead(t *testing.T, j *Journal, epoch uint64, l []string) {
	t.Helper()
	checkTells(t, j, epoch, l, 0, true)
	for _, s := range []string{"", "x", tooLong()} {
		answers(t, j.Add(s), api.ErrDead)
		answers(t, j.Renew([]string{s}), api.ErrDead)
	}
	answers(t, j.Flush(), api.ErrDead)
	answers(t, j.Renew(nil), api.ErrDead)
	for _, n := range []int{-1, 0, len(l), len(l) + 1} {
		answers(t, j.Cut(n), api.ErrDead)
	}
	checkTells(t, j, epoch, l, 0, true)
}

// Promise 12.3: a disk that is full ends a journal that is to be renewed: its names are used up, or the records are too many.
func TestRenewFull(t *testing.T) {
	d, j := began(t, "a", "b")
	full(t, d, 64)
	was := lookAt(t, d)
	answers(t, j.Renew([]string{"x"}), api.ErrFull)
	checkLook(t, d, was)
	checkDead(t, j, 0, []string{"a", "b"})
	checkLook(t, d, was)
	checkTells(t, opens(t, d, "j"), 0, []string{"a", "b"}, 0, false)

	l := make([]string, 256)
	for i := range l {
		l[i] = strings.Repeat("f", 65536)
	}
	l[255] = l[255][:1<<24-20-255*65552-16]
	d, j = began(t, "a")
	answers(t, j.Renew(l), api.OK)
	checkTells(t, j, 1, l, 0, false)
	if j.Size() != 1<<24 {
		t.Fatal("Size", j.Size())
	}
	more := slices.Clone(l)
	more[255] += "f"
	answers(t, j.Renew(more), api.ErrFull)
	checkNames(t, d, "j")
	checkDead(t, j, 1, l)
}

// Promise 12.3: each call whose disk is dead is answered so, and the journal is dead by it, and not ahead of it; also when the power is on again.
func TestDeadBy(t *testing.T) {
	for name, call := range map[string]func(j *Journal) api.Errno{
		"Add":   func(j *Journal) api.Errno { return j.Add("x") },
		"Flush": (*Journal).Flush,
		"Cut":   func(j *Journal) api.Errno { return j.Cut(1) },
		"Renew": func(j *Journal) api.Errno { return j.Renew([]string{"x"}) },
	} {
		d, j := began(t, "a", "b")
		d.Crash(0, 0)
		answers(t, j.Add(tooLong()), api.ErrRecord)
		answers(t, j.Cut(3), api.ErrArg)
		answers(t, j.Cut(-1), api.ErrArg)
		answers(t, j.Renew([]string{tooLong()}), api.ErrRecord)
		checkTells(t, j, 0, []string{"a", "b"}, 0, false)
		if e := call(j); e != api.ErrDead {
			t.Fatal(name, e)
		}
		checkDead(t, j, 0, []string{"a", "b"})
		d.Up()
		checkDead(t, j, 0, []string{"a", "b"})
		checkFile(t, d, "j", wantFile(0, "a", "b"))
		checkCounts(t, d, 1, 0)
	}
	d := holding(t, wantFile(math.MaxUint64))
	j := opens(t, d, "j")
	d.Crash(0, 0)
	answers(t, j.Renew(nil), api.ErrEpoch)
	checkTells(t, j, math.MaxUint64, nil, 0, false)
}

// Promise 12.3: other errors of the disk, of a file that somebody else took away or cut, leave a journal alive.
func TestTakenAway(t *testing.T) {
	d, j := began(t, "a", "b")
	answers(t, d.Cut("j", 30), api.OK)
	answers(t, j.Cut(2), api.ErrArg)
	answers(t, d.Remove("j"), api.OK)
	answers(t, j.Cut(0), api.ErrNone)
	checkTells(t, j, 0, []string{"a", "b"}, 0, false)
	answers(t, j.Flush(), api.OK)
	answers(t, j.Renew([]string{"c"}), api.OK)
	checkFile(t, d, "j", wantFile(1, "c"))
}

// Promise 12.4: what Open cut away is told as long as the journal lives.
func TestTorn(t *testing.T) {
	d := holding(t, wantFile(0, "a")+"tail")
	j := opens(t, d, "j")
	adds(t, j, "b")
	checkTells(t, j, 0, []string{"a", "b"}, 4, false)
	answers(t, j.Cut(0), api.OK)
	checkTells(t, j, 0, nil, 4, false)
	answers(t, j.Renew([]string{"c"}), api.OK)
	checkTells(t, j, 1, []string{"c"}, 4, false)
	d.Crash(0, 0)
	answers(t, j.Flush(), api.ErrDead)
	checkTells(t, j, 1, []string{"c"}, 4, true)
}

// Promise 12.4 and rule R4: All hands out a list of its own, and Renew keeps none that was handed in, nor what lies behind its end.
func TestMemory(t *testing.T) {
	_, j := began(t, "a", "b", "c")
	one, two := j.All(), j.All()
	one[0] = "changed"
	_ = append(one[:1], "over")
	_ = append(one, "behind")
	if !slices.Equal(two, []string{"a", "b", "c"}) {
		t.Fatalf("another answer was changed: %q", two)
	}
	checkTells(t, j, 0, []string{"a", "b", "c"}, 0, false)
	adds(t, j, "d")
	answers(t, j.Cut(2), api.OK)
	three := j.All()
	adds(t, j, "e")
	if !slices.Equal(three, []string{"a", "b"}) || !slices.Equal(three[:cap(three)][:2], []string{"a", "b"}) {
		t.Fatalf("an answer was changed: %q", three)
	}
	given := []string{"x", "y", "spare", "room"}
	answers(t, j.Renew(given[:2]), api.OK)
	adds(t, j, "z")
	if !slices.Equal(given, []string{"x", "y", "spare", "room"}) {
		t.Fatalf("what was handed in was changed: %q", given)
	}
	given[0] = "changed"
	checkTells(t, j, 1, []string{"x", "y", "z"}, 0, false)
}

// The chapter's ways: what is cut leaves no spare room.
func TestCutLeavesNoRoom(t *testing.T) {
	_, j := began(t, "a", "b", "c")
	answers(t, j.Cut(1), api.OK)
	if cap(j.records) != 1 {
		t.Fatal("spare room", cap(j.records))
	}
}

// Promise 12.5: every call of a nil Journal.
func TestNil(t *testing.T) {
	var j *Journal
	for _, s := range []string{"", "x", tooLong()} {
		answers(t, j.Add(s), api.ErrDead)
		answers(t, j.Renew([]string{s}), api.ErrDead)
	}
	answers(t, j.Renew(nil), api.ErrDead)
	answers(t, j.Flush(), api.ErrDead)
	for _, n := range []int{-1, 0, 1} {
		answers(t, j.Cut(n), api.ErrDead)
		if s, ok := j.Get(n); s != "" || ok {
			t.Fatalf("Get(%d): %q, %v", n, s, ok)
		}
	}
	if !j.Dead() || len(j.All()) != 0 || j.Len() != 0 || j.Epoch() != 0 || j.Torn() != 0 || j.Size() != 0 {
		t.Fatal("a nil Journal tells something")
	}
}
