package disk

import (
	"math"
	"testing"

	"bedrock/api"
)

// Promise 7.4 and the chapter's example.
func TestExample(t *testing.T) {
	began := func() *Disk {
		d := New()
		must(t, d, write("a", 0, "xy"), sync(), add("a", "z"), add("a", "w"))
		return d
	}
	for _, x := range []struct {
		keep int
		want string
	}{{1, "xyz"}, {0, "xy"}, {2, "xyzw"}} {
		d := began()
		d.Crash(x.keep, 0)
		if !d.Dead() || !d.Up() || d.Up() || d.Dead() {
			t.Fatal("the disk is not dead until Up")
		}
		checkFiles(t, d, map[string]string{"a": x.want})
	}
	d := New()
	must(t, d, write("a", 0, "xy"), sync(), move("a", "b"))
	d.Crash(0, 0)
	d.Up()
	checkFiles(t, d, map[string]string{"a": "xy"})
	refuse(t, d, write("a", 5, "x"), api.ErrArg)
}

// row is a long row of steps: changes of all kinds, next to changes of all kinds, sure ones and loose ones.
func row() []step {
	return []step{
		write("a", 0, "first"), write("b", 0, ""), add("a", " and more"), add("b", "bbb"),
		sync(),
		write("a", 2, "XYZ"), cut("a", 7), write("a", 7, "tail"), move("a", "c"), write("a", 0, "anew"), remove("b"),
		write("b", 0, "again"), move("c", "b"), add("b", "behind"), cut("b", 0), write("d", 0, ""), write("d", 0, "dd"),
		sync(), sync(),
		remove("a"), move("d", "d"), write("e", 0, "eeeee"), write("e", 1, "FFF"), move("e", "b"),
		add("b", "12"), add("b", "34"), remove("d"), write("d", 0, "late"), cut("d", 2), cut("d", 2), add("d", ""),
		sync(),
		add("d", "not synced"), write("d", 4, "over the end of it"), move("d", "f"), remove("b"),
	}
}

// split is the steps ahead of the last Sync, and those behind it.
func split(l []step) (sure, loose []step) {
	for _, x := range l {
		if x.kind == "sync" {
			sure, loose = append(sure, loose...), nil
			continue
		}
		loose = append(loose, x)
	}
	return sure, loose
}

// ahead is how many steps of a row stand ahead of the call at which a fall strikes, or -1.
func ahead(l []step, at int, sync bool) int {
	made := 0
	for i, x := range l {
		if made == at && (x.kind == "sync") == sync {
			return i
		}
		if x.kind != "sync" {
			made++
		}
	}
	return -1
}

// falls is all kinds of what may stay.
func falls(at int, sync bool) []api.Fall {
	var l []api.Fall
	for _, keep := range []int{math.MinInt, -1, 0, 1, 2, 3, 4, 5, 11, 12, 13, 100, math.MaxInt} {
		for _, torn := range []int{math.MinInt, -1, 0, 1, 2, 3, 5, 100, math.MaxInt} {
			l = append(l, api.Fall{At: at, Keep: keep, Torn: torn, Sync: sync})
		}
	}
	return l
}

// checkFall plays a row up to the call at which a fall strikes, and asks what stays, and that the disk goes on from there.
func checkFall(t *testing.T, l []step, f api.Fall) {
	t.Helper()
	d := New()
	d.Plan([]api.Fall{f})
	n := ahead(l, f.At, f.Sync)
	if n < 0 {
		must(t, d, l...)
		checkFiles(t, d, played(l))
		return
	}
	must(t, d, l[:n]...)
	if e := l[n].on(d); e != api.ErrDead || !d.Dead() {
		t.Fatalf("%v did not strike at step %d: %d", f, n, e)
	}
	sure, loose := split(l[:n])
	want := played(sure, left(loose, f.Keep, f.Torn))
	checkSure(t, d, want)
	checkCounts(t, d, f.At, 0)
	if !d.Up() {
		t.Fatal("it was not dead")
	}
	checkFiles(t, d, want)
	must(t, d, write("another", 0, "x"), sync())
	checkCounts(t, d, f.At+1, 0)
}

// Promise 7.4: falls at each number of a row of changes, and at each Sync, with all that may stay.
func TestFalls(t *testing.T) {
	l := row()
	for at := -1; at < len(l)+2; at++ {
		for _, sync := range []bool{false, true} {
			for _, f := range falls(at, sync) {
				checkFall(t, l, f)
			}
		}
	}
}

// Promise 7.4: Crash is as a fall at this point, and the change that comes next keeps its number.
func TestCrash(t *testing.T) {
	l := row()
	for n := range len(l) + 1 {
		for _, f := range falls(0, false) {
			d := New()
			must(t, d, l[:n]...)
			made := d.Changes()
			d.Crash(f.Keep, f.Torn)
			if !d.Dead() {
				t.Fatal("a crashed disk is not dead")
			}
			sure, loose := split(l[:n])
			want := played(sure, left(loose, f.Keep, f.Torn))
			d.Crash(0, 0)
			checkCounts(t, d, made, 0)
			checkSure(t, d, want)
			d.Up()
			checkFiles(t, d, want)
		}
	}
}

// Promise 7.4: of the next Write its first bytes stay, as a Write of them, written out.
func TestTorn(t *testing.T) {
	for _, x := range []struct {
		loose      []step
		keep, torn int
		want       map[string]string
	}{
		{[]step{write("a", 1, "XYZ")}, 0, 0, map[string]string{"a": "abc"}},
		{[]step{write("a", 1, "XYZ")}, 0, 1, map[string]string{"a": "aXc"}},
		{[]step{write("a", 1, "XYZ")}, -7, 2, map[string]string{"a": "aXY"}},
		{[]step{write("a", 1, "XYZ")}, 0, 3, map[string]string{"a": "aXYZ"}},
		{[]step{write("a", 1, "XYZ")}, 0, 4, map[string]string{"a": "aXYZ"}},
		{[]step{add("a", "XYZ"), add("a", "!")}, 0, 2, map[string]string{"a": "abcXY"}},
		{[]step{add("a", "XYZ"), add("a", "!")}, 0, 9, map[string]string{"a": "abcXYZ"}},
		{[]step{write("n", 0, "new")}, 0, 0, map[string]string{"a": "abc"}},
		{[]step{write("n", 0, "new")}, 0, 1, map[string]string{"a": "abc", "n": "n"}},
		{[]step{write("n", 0, "")}, 0, 0, map[string]string{"a": "abc"}},
		{[]step{write("n", 0, "")}, 0, 1, map[string]string{"a": "abc", "n": ""}},
		{[]step{cut("a", 1), add("a", "!!")}, 0, 1, map[string]string{"a": "abc"}},
		{[]step{cut("a", 1), add("a", "!!")}, 1, 1, map[string]string{"a": "a!"}},
		{[]step{move("a", "b"), write("a", 0, "x")}, 0, 1, map[string]string{"a": "abc"}},
		{[]step{remove("a"), write("a", 0, "xy")}, 0, 1, map[string]string{"a": "abc"}},
		{[]step{remove("a"), write("a", 0, "xy")}, 1, 1, map[string]string{"a": "x"}},
		{[]step{write("n", 0, "new"), move("n", "a")}, 1, 5, map[string]string{"a": "abc", "n": "new"}},
		{[]step{write("n", 0, "new"), move("n", "a")}, 2, 5, map[string]string{"a": "new"}},
	} {
		d := New()
		must(t, d, write("a", 0, "abc"), sync())
		must(t, d, x.loose...)
		d.Crash(x.keep, x.torn)
		d.Up()
		checkFiles(t, d, x.want)
		checkSure(t, d, x.want)
	}
}

// Promise 7.4: what stayed behind a fall is sure: a second crash takes nothing of it.
func TestWhatStaysIsSure(t *testing.T) {
	d := New()
	must(t, d, write("a", 0, "x"), add("a", "yy"), add("a", "z"))
	d.Crash(1, 1)
	d.Up()
	d.Crash(0, 0)
	d.Up()
	checkFiles(t, d, map[string]string{"a": "xy"})
	must(t, d, add("a", "!"))
	d.Crash(0, 0)
	d.Up()
	checkFiles(t, d, map[string]string{"a": "xy"})
	checkCounts(t, d, 4, 0)
}

// strike asks that a step is struck, and turns the power on again.
func strike(t *testing.T, d *Disk, x step) {
	t.Helper()
	if e := x.on(d); e != api.ErrDead || !d.Up() {
		t.Fatalf("%v was not struck: %d", x, e)
	}
}

// Promise 7.4: of two falls at one call the first in the plan strikes, the other when the call comes again; others between them do not matter.
func TestTwoFalls(t *testing.T) {
	d := New()
	d.Plan([]api.Fall{{At: 9}, {At: 2, Keep: 1}, {At: 2, Keep: 5, Sync: true}, {At: 2, Keep: 0}, {At: 1, Sync: true}})
	must(t, d, write("a", 0, "x"), add("a", "y"))
	strike(t, d, add("a", "z"))
	checkFiles(t, d, map[string]string{"a": "x"})
	strike(t, d, add("a", "z"))
	checkFiles(t, d, map[string]string{"a": "x"})
	strike(t, d, sync())
	must(t, d, sync(), add("a", "z"), sync())
	checkFiles(t, d, map[string]string{"a": "xz"})
	checkCounts(t, d, 3, 0)

	d = New()
	d.Plan([]api.Fall{{At: 2, Keep: 0, Torn: 1}, {At: 2, Keep: 1}})
	must(t, d, write("a", 0, "xxx"), add("a", "y"))
	strike(t, d, remove("a"))
	checkFiles(t, d, map[string]string{"a": "x"})
	strike(t, d, remove("a"))
	must(t, d, remove("a"))
}

// Promise 7.4: two same falls are two.
func TestSameFalls(t *testing.T) {
	for _, x := range []step{sync(), write("a", 0, "x")} {
		f := api.Fall{Sync: x.kind == "sync"}
		d := New()
		d.Plan([]api.Fall{f, f, f})
		for range 3 {
			strike(t, d, x)
		}
		must(t, d, x)
	}
}

// Promise 7.4: a fall at a Sync strikes at the first one that is asked while just At changes were made, and at no change.
func TestFallAtSync(t *testing.T) {
	d := New()
	d.Plan([]api.Fall{{At: 2, Keep: 1, Sync: true}})
	must(t, d, sync(), write("a", 0, "x"), sync(), add("a", "y"), add("a", "z"), sync())
	checkFiles(t, d, map[string]string{"a": "xyz"})

	d = New()
	d.Plan([]api.Fall{{At: 2, Keep: 1, Sync: true}})
	must(t, d, write("a", 0, "x"), add("a", "y"))
	strike(t, d, sync())
	checkFiles(t, d, map[string]string{"a": "x"})
	checkCounts(t, d, 2, 0)
	must(t, d, sync(), add("a", "z"), sync())
	checkFiles(t, d, map[string]string{"a": "xz"})

	d = New()
	must(t, d, write("a", 0, "x"), sync())
	d.Plan([]api.Fall{{At: 1, Sync: true}})
	strike(t, d, sync())
	checkFiles(t, d, map[string]string{"a": "x"})
}

// Promise 7.4: falls strike at calls that would make a change: not at one that is answered an error, nor at one that reads.
func TestFallWaits(t *testing.T) {
	d := New()
	must(t, d, write("a", 0, "x"))
	d.Plan([]api.Fall{{At: 1, Keep: 1}})
	for _, x := range []struct {
		step step
		want api.Errno
	}{
		{write("A", 0, "x"), api.ErrName}, {write("a", 2, "x"), api.ErrArg}, {write("a", 0, string(make([]byte, 1<<24+1))), api.ErrFull},
		{add("", "x"), api.ErrName}, {cut("a", 2), api.ErrArg}, {cut("b", 0), api.ErrNone},
		{move("a", ""), api.ErrName}, {move("b", "a"), api.ErrNone}, {remove("b"), api.ErrNone}, {remove("?"), api.ErrName},
	} {
		refuse(t, d, x.step, x.want)
	}
	must(t, d, sync())
	checkFiles(t, d, map[string]string{"a": "x"})
	strike(t, d, move("a", "a"))
	must(t, d, move("a", "a"))
}

// Promise 7.4: a fall whose At was passed never strikes, also where the changes that passed it were lost.
func TestFallPassed(t *testing.T) {
	d := New()
	must(t, d, write("a", 0, "x"), add("a", "y"), add("a", "z"))
	d.Plan([]api.Fall{{At: 2}, {At: 2, Sync: true}, {At: -1}, {At: math.MinInt, Sync: true}, {At: 0}, {At: 0, Sync: true}})
	d.Crash(0, 0)
	d.Up()
	checkFiles(t, d, nil)
	checkCounts(t, d, 3, 0)
	must(t, d, sync(), write("a", 0, "x"), sync(), add("a", "y"), add("a", "z"), sync(), add("a", "w"), sync())
	checkCounts(t, d, 7, 0)
	checkFiles(t, d, map[string]string{"a": "xyzw"})
}

// Promise 7.4: a plan takes the place of the one that was there, also an empty one, and is not the list that was handed in.
func TestPlanAnew(t *testing.T) {
	d := New()
	d.Plan([]api.Fall{{At: 0}, {At: 1}})
	d.Plan([]api.Fall{{At: 1}})
	must(t, d, write("a", 0, "x"))
	d.Plan(nil)
	must(t, d, add("a", "y"), sync())

	l := []api.Fall{{At: 3}, {At: 2}, {At: 2, Sync: true}, {At: 9}}[:3]
	d.Plan(l)
	strike(t, d, add("a", "z"))
	if l[0].At != 3 || l[1].At != 2 || !l[2].Sync || l[:4][3].At != 9 {
		t.Fatal("the list that was handed in was changed")
	}
	l[0].At, l[2].At = 4, 5
	strike(t, d, sync())
	must(t, d, add("a", "z"))
	strike(t, d, add("a", "w"))
	must(t, d, add("a", "w"), sync(), add("a", "v"), sync())
	d.Plan([]api.Fall{{At: 5}})
	strike(t, d, add("a", "u"))
	d.Plan([]api.Fall{{At: 5}})
	strike(t, d, add("a", "u"))
	checkFiles(t, d, map[string]string{"a": "xywv"})
}

// Promise 7.4: a plan that is laid while the disk is dead holds from then on; a dead disk's calls are not struck.
func TestPlanOfDead(t *testing.T) {
	d := New()
	must(t, d, write("a", 0, "x"), sync(), add("a", "y"))
	d.Plan([]api.Fall{{At: 2, Keep: 9}})
	d.Crash(1, 0)
	d.Plan([]api.Fall{{At: 2, Sync: true}, {At: 3, Keep: 0}})
	for range 3 {
		if e := d.Sync(); e != api.ErrDead {
			t.Fatal(e)
		}
	}
	d.Crash(0, 0)
	d.Up()
	strike(t, d, sync())
	must(t, d, sync(), add("a", "z"))
	strike(t, d, add("a", "w"))
	checkFiles(t, d, map[string]string{"a": "xy"})
}
