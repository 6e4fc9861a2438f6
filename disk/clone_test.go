package disk

import (
	"math"
	"math/rand"
	"strings"
	"testing"

	"bedrock/api"
)

// checkOff asks that every call that may be answered ErrDead is so, whatever is handed in.
func checkOff(t *testing.T, d *Disk) {
	t.Helper()
	long := strings.Repeat("x", 1<<24+1)
	for _, name := range append(noNames(), "a", "none", "new") {
		for _, at := range []int{0, 1, -1, 9, math.MaxInt, math.MinInt} {
			for _, x := range []step{write(name, at, ""), write(name, at, "x"), write(name, at, long), add(name, "x"), add(name, long), cut(name, at), move(name, "a"), move("a", name), remove(name), sync()} {
				if e := x.on(d); e != api.ErrDead {
					t.Fatalf("%s of %.40q: %d", x.kind, name, e)
				}
			}
			if s, e := d.Read(name); s != "" || e != api.ErrDead {
				t.Fatalf("Read(%.40q): %q, %d", name, s, e)
			}
			if s, e := d.Part(name, at, 1); s != "" || e != api.ErrDead {
				t.Fatalf("Part(%.40q): %q, %d", name, s, e)
			}
			if n, e := d.Size(name); n != 0 || e != api.ErrDead {
				t.Fatalf("Size(%.40q): %d, %d", name, n, e)
			}
		}
	}
	if !d.Dead() {
		t.Fatal("it is not dead")
	}
}

// Promises 7.1 to 7.4: every call on a dead disk; it tells what stays, and is as it was when it is up.
func TestDead(t *testing.T) {
	d := New()
	must(t, d, write("a", 0, "xyz"), sync(), write("b", 0, "loose"), write("c", 0, "lost"))
	d.Crash(1, 0)
	checkOff(t, d)
	d.Crash(0, 0)
	stays := map[string]string{"a": "xyz", "b": "loose"}
	checkCounts(t, d, 3, 0)
	checkSure(t, d, stays)
	if names := strings.Join(d.Names(), " "); names != "a b" {
		t.Fatal(names)
	}
	if !d.Up() || d.Dead() || d.Up() {
		t.Fatal("Up")
	}
	checkFiles(t, d, stays)
	checkCounts(t, d, 3, 0)
}

// Promise 7.5: every call on a nil disk.
func TestNil(t *testing.T) {
	var d *Disk
	for range 2 {
		checkOff(t, d)
		if len(d.Names()) != 0 || len(d.Sure()) != 0 || d.Up() || d.Changes() != 0 || d.Loose() != 0 || d.Clone() != nil {
			t.Fatal("a nil disk tells something")
		}
		d.Plan([]api.Fall{{At: 0}})
		d.Plan(nil)
		d.Crash(0, 0)
		d.Crash(9, 9)
	}
}

// Promise 7.5: a copy is the same, and goes its own way: nothing that is done to the one is seen by the other.
func TestClone(t *testing.T) {
	d := New()
	must(t, d, write("a", 0, "abcdef"), write("b", 0, "b"), sync(), write("a", 1, "XY"), add("b", "!"))
	files, sure := read(d), d.Sure()
	same := func(x *Disk) {
		t.Helper()
		checkFiles(t, x, files)
		checkSure(t, x, sure)
		checkCounts(t, x, 4, 2)
	}
	c := d.Clone()
	same(c)
	must(t, d, write("a", 0, "ZZZZZZ"), cut("b", 0), add("b", "other"), remove("a"), write("n", 0, ""), sync())
	same(c)
	other := c.Clone()
	must(t, other, cut("a", 1), add("a", "?"), move("b", "c"), sync(), remove("c"))
	same(c)
	other = c.Clone()
	other.Crash(0, 0)
	same(c)
	other = c.Clone()
	c.Crash(1, 0)
	same(other)
	checkSure(t, c, map[string]string{"a": "aXYdef", "b": "b"})
	if !c.Clone().Dead() || !c.Clone().Up() || !c.Dead() {
		t.Fatal("a copy of a dead disk")
	}
}

// Promise 7.5: loose changes of a copy and of what was copied do not stand in one list.
func TestCloneLoose(t *testing.T) {
	for n := range 9 {
		d := New()
		want := ""
		for range n {
			must(t, d, add("a", "x"))
			want += "x"
		}
		c := d.Clone()
		must(t, d, add("a", "d"))
		must(t, c, add("a", "c"))
		for disk, last := range map[*Disk]string{d: "d", c: "c"} {
			disk.Crash(n+1, 0)
			disk.Up()
			checkFiles(t, disk, map[string]string{"a": want + last})
		}
	}
}

// Promise 7.5: a copy has the plan with it, each has its own falls, and a new plan of the one is none of the other.
func TestClonePlan(t *testing.T) {
	d := New()
	d.Plan([]api.Fall{{At: 0}, {At: 1}, {At: 1, Sync: true}, {At: 2}})
	strike(t, d, add("a", "x"))
	must(t, d, add("a", "x"))
	c := d.Clone()
	strike(t, d, add("a", "y"))
	strike(t, d, sync())
	later := d.Clone()
	strike(t, c, sync())
	strike(t, c, add("a", "y"))
	must(t, later, add("a", "y"), sync())
	strike(t, later, add("a", "z"))
	later.Plan(nil)
	d.Plan([]api.Fall{{At: 1}})
	must(t, c, sync(), add("a", "y"))
	strike(t, c, add("a", "z"))
	strike(t, d, add("a", "y"))
	must(t, later, add("a", "z"))
}

// lotStep is a step by lots: often a good one, sometimes one that is answered an error.
func lotStep(lots *rand.Rand, m *model) step {
	names := []string{"a", "b", "c", "d.tmp", "e-5", "A", ""}
	name, to := names[lots.Intn(5+lots.Intn(3))], names[lots.Intn(5+lots.Intn(3))]
	at := lots.Intn(len(m.files()[name])+2) - lots.Intn(2)
	s := "abcdefghijklmnopqrstuvwxyz"[lots.Intn(20):][:lots.Intn(7)]
	switch lots.Intn(12) {
	case 0, 1, 2:
		return write(name, at, s)
	case 3, 4, 5:
		return add(name, s)
	case 6, 7:
		return cut(name, at)
	case 8, 9:
		return move(name, to)
	case 10:
		return remove(name)
	}
	return sync()
}

// lotFalls is a plan by lots, near the number of the next change.
func lotFalls(lots *rand.Rand, made int) []api.Fall {
	var l []api.Fall
	for range lots.Intn(8) {
		l = append(l, api.Fall{At: made + lots.Intn(14) - 2, Keep: lots.Intn(10) - 1, Torn: lots.Intn(9) - 1, Sync: lots.Intn(2) == 0})
	}
	return l
}

// Promises 7.1 to 7.5: long rows of calls by lots, with plans, crashes and copies, answered as the model does.
func TestByLots(t *testing.T) {
	for seed := range int64(400) {
		lots := rand.New(rand.NewSource(seed))
		d, m := New(), &model{}
		for range 80 {
			switch lots.Intn(24) {
			case 0:
				l := lotFalls(lots, m.made)
				d.Plan(l)
				m.plan = l
			case 1:
				keep, torn := lots.Intn(10)-1, lots.Intn(9)-1
				d.Crash(keep, torn)
				m.crash(keep, torn)
			case 2:
				before := d
				d = d.Clone()
				before.Crash(0, 0)
				before.Up()
				before.Plan(nil)
				before.Write("a", 0, "other")
			default:
				x := lotStep(lots, m)
				if got, want := x.on(d), m.call(x); got != want {
					t.Fatalf("lots %d: %v: %d, not %d", seed, x, got, want)
				}
			}
			checkSame(t, d, m)
			if lots.Intn(3) == 0 {
				if got := d.Up(); got != m.dead {
					t.Fatalf("lots %d: Up: %v", seed, got)
				}
				m.dead = false
			}
		}
	}
}
