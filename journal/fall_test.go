package journal

import (
	"math/rand"
	"slices"
	"strings"
	"testing"

	"bedrock/api"
	"bedrock/disk"
)

// call is something that is done to a journal.
type call struct {
	kind string // add, flush, cut, renew, open
	s    string
	n    int
	l    []string
}

func (c call) on(j *Journal) api.Errno {
	switch c.kind {
	case "add":
		return j.Add(c.s)
	case "flush":
		return j.Flush()
	case "cut":
		return j.Cut(c.n)
	}
	return j.Renew(c.l)
}

func (c call) onModel(m *model) bool {
	switch c.kind {
	case "add":
		return m.add(c.s)
	case "flush":
		return m.sync()
	case "cut":
		return m.cut(c.n)
	}
	return m.renew(c.l)
}

// script is a row of calls that has each kind behind each kind.
func script() []call {
	add := func(s string) call { return call{kind: "add", s: s} }
	cut := func(n int) call { return call{kind: "cut", n: n} }
	flush := call{kind: "flush"}
	renew := func(l ...string) call { return call{kind: "renew", l: l} }
	return []call{
		{kind: "open"}, add("a"), flush, add("bb"), add(""), {kind: "open"}, add("dddd"), flush, flush,
		add("e"), cut(3), add("f"), cut(4), cut(1), flush, cut(1), add("g"),
		renew("x", "y", ""), add("h"), renew(), renew("z"), cut(0), renew("1", "22", "333"),
		add("i"), flush, add("j"), {kind: "open"}, cut(4), add("k"), add("l"),
	}
}

// played is a disk with its journal and the model of both.
type played struct {
	d *disk.Disk
	j *Journal
	m *model
}

// does makes a call to both, and asks that both tell the same; it tells whether the power is on.
func (p *played) does(t *testing.T, c call) bool {
	t.Helper()
	if c.kind == "open" {
		return p.opens(t)
	}
	ahead, cutAway := p.m.now(), p.m.torn
	e, want := c.on(p.j), c.onModel(p.m)
	if (e == api.OK) != want || e != api.OK && e != api.ErrDead || p.d.Dead() == want {
		t.Fatalf("%s: %d, not %v", c.kind, e, want)
	}
	if !want {
		checkTells(t, p.j, ahead.epoch, ahead.records, cutAway, true)
		return false
	}
	p.same(t)
	return true
}

// opens opens the journal anew.
func (p *played) opens(t *testing.T) bool {
	t.Helper()
	j, e := Open(p.d, "j")
	want := p.m.open()
	if !want {
		if j != nil || e != api.ErrDead || !p.d.Dead() {
			t.Fatalf("Open at a fall: %v, %d", j, e)
		}
		return false
	}
	if j == nil || e != api.OK {
		t.Fatalf("Open: %v, %d", j, e)
	}
	p.j = j
	p.same(t)
	return true
}

func (p *played) same(t *testing.T) {
	t.Helper()
	now := p.m.now()
	checkTells(t, p.j, now.epoch, now.records, p.m.torn, false)
	checkCounts(t, p.d, p.m.made, len(p.m.longs))
	checkFile(t, p.d, "j", wantFile(now.epoch, now.records...))
	if now.aside {
		t.Fatal("the model has something aside behind a call")
	}
	checkNames(t, p.d, "j")
}

// rises turns the power on, and opens until it stands up; then once more, which is as once.
func (p *played) rises(t *testing.T) {
	t.Helper()
	for tries := 0; ; tries++ {
		if tries > 100 || !p.d.Up() {
			t.Fatal("it does not stand up")
		}
		if p.opens(t) {
			break
		}
	}
	was := lookAt(t, p.d)
	if !p.opens(t) {
		t.Fatal("opening twice is not as once")
	}
	checkLook(t, p.d, was)
}

func begins(plan ...api.Fall) *played {
	p := &played{d: disk.New(), m: newModel()}
	p.d.Plan(plan)
	p.m.plan = slices.Clone(plan)
	return p
}

// checkFalls plays a script under a plan; whatever falls, the journal is opened anew, and the script goes on with what can still be done.
func checkFalls(t *testing.T, l []call, plan ...api.Fall) {
	t.Helper()
	p := begins(plan...)
	for _, c := range l {
		if c.kind == "cut" && c.n > len(p.m.now().records) {
			continue
		}
		if !p.does(t, c) {
			p.rises(t)
		}
	}
}

// changes is how many changes a script makes.
func changes(t *testing.T, l []call) int {
	t.Helper()
	p := begins()
	for _, c := range l {
		if !p.does(t, c) {
			t.Fatal("a fall out of nothing")
		}
	}
	return p.m.made
}

// Promise 12.6: falls at every change and every Sync of Open, Add, Flush, Cut and Renew, with every part of what is loose and of the change that fell.
func TestFalls(t *testing.T) {
	l := script()
	for at := range changes(t, l) + 2 {
		for _, sync := range []bool{false, true} {
			for keep := range 5 {
				for torn := range 22 {
					checkFalls(t, l, api.Fall{At: at, Keep: keep, Torn: torn, Sync: sync})
				}
			}
		}
	}
}

// Promise 12.6: falls while standing up from a fall, at every change and Sync of it.
func TestFallsWhileOpening(t *testing.T) {
	l := script()
	for at := range changes(t, l) + 1 {
		for _, keep := range []int{0, 1, 2} {
			for _, torn := range []int{0, 1, 17, 20} {
				first := api.Fall{At: at, Keep: keep, Torn: torn}
				for _, sync := range []bool{false, true} {
					for next := at; next < at+4; next++ {
						checkFalls(t, l, first, api.Fall{At: next, Keep: keep, Torn: torn / 2, Sync: sync})
						checkFalls(t, l, first, api.Fall{At: next, Sync: sync}, api.Fall{At: next, Sync: !sync})
					}
				}
			}
		}
	}
}

// checkCrash lets the power fail behind a row of calls, and asks what is opened then.
func checkCrash(t *testing.T, l []call, keep, torn int) {
	t.Helper()
	p := begins()
	for _, c := range l {
		p.does(t, c)
	}
	p.d.Crash(keep, torn)
	p.m.fall(keep, torn)
	p.rises(t)
}

// Promise 12.6: the power fails behind each call, with every part of what is loose.
func TestCrashes(t *testing.T) {
	l := script()
	for n := range len(l) + 1 {
		for keep := range 6 {
			for torn := range 24 {
				checkCrash(t, l[:n], keep, torn)
			}
		}
	}
}

// someCall is a call by lots.
func someCall(lots *rand.Rand, records int) call {
	text := func() string { return strings.Repeat(string(rune('a'+lots.Intn(26))), lots.Intn(12)) }
	switch lots.Intn(12) {
	case 0, 1:
		return call{kind: "flush"}
	case 2:
		return call{kind: "cut", n: lots.Intn(records + 1)}
	case 3:
		return call{kind: "open"}
	case 4:
		l := make([]string, lots.Intn(4))
		for i := range l {
			l[i] = text()
		}
		return call{kind: "renew", l: l}
	}
	return call{kind: "add", s: text()}
}

// somePlan is falls by lots.
func somePlan(lots *rand.Rand) []api.Fall {
	plan := make([]api.Fall, lots.Intn(8))
	for i := range plan {
		plan[i] = api.Fall{At: lots.Intn(40), Keep: lots.Intn(6) - 1, Torn: lots.Intn(30) - 1, Sync: lots.Intn(2) == 0}
	}
	return plan
}

// Promise 12.6: long rows of calls by lots, with falls by lots.
func TestFallsByLots(t *testing.T) {
	for seed := range int64(2000) {
		lots := rand.New(rand.NewSource(seed))
		p := begins(somePlan(lots)...)
		if !p.opens(t) {
			p.rises(t)
		}
		for range 40 {
			if !p.does(t, someCall(lots, len(p.m.now().records))) {
				p.rises(t)
			}
		}
	}
}

// Promise 12.6, without a model of what the disk does: what was sure is there, and then some first of what was loose.
func TestSureStays(t *testing.T) {
	sure, loose := []string{"a", "", "ccc"}, []string{"d", "ee", "", "gggg"}
	whole := slices.Concat(sure, loose)
	for keep := range 7 {
		for torn := range 40 {
			d := disk.New()
			j := opens(t, d, "j")
			adds(t, j, sure...)
			answers(t, j.Flush(), api.OK)
			adds(t, j, loose...)
			d.Crash(keep, torn)
			d.Up()
			got := opens(t, d, "j").All()
			if len(got) < len(sure)+min(keep, len(loose)) || len(got) > len(whole) || !slices.Equal(got, whole[:len(got)]) {
				t.Fatalf("Crash(%d, %d): %q", keep, torn, got)
			}
		}
	}
}

// Promise 12.6, likewise: a journal that was renewed has just the old records or just the new ones, and by the end the new ones.
func TestRenewedOrNot(t *testing.T) {
	older, newer := []string{"a", "bb", "ccc"}, []string{"x", "bb"}
	for at := range 4 {
		for _, sync := range []bool{false, true} {
			for keep := range 3 {
				for torn := range len(wantFile(1, newer...)) + 2 {
					d, j := began(t, older...)
					d.Plan([]api.Fall{{At: 1 + at, Keep: keep, Torn: torn, Sync: sync}})
					e := j.Renew(newer)
					d.Up()
					got := opens(t, d, "j")
					isNew := slices.Equal(got.All(), newer) && got.Epoch() == 1
					isOld := slices.Equal(got.All(), older) && got.Epoch() == 0
					if !isNew && !isOld || e == api.OK && !isNew || got.Torn() != 0 {
						t.Fatalf("%d, %v, %d, %d: %d, %q", at, sync, keep, torn, e, got.All())
					}
					checkNames(t, d, "j")
				}
			}
		}
	}
}

// Promise 12.6: falls at each change of an Open that has all to do: what stands aside goes first, then the torn tail.
func TestFallsOfOpen(t *testing.T) {
	file, tail := wantFile(3, "a", "bb"), wantRecord(3, 2, "torn")[:9]
	for _, x := range []struct {
		fall       api.Fall // at a number of changes from Open on
		aside, cut bool     // which of both stayed done
	}{
		{api.Fall{At: 0, Keep: 9}, false, false},
		{api.Fall{At: 1, Keep: 0}, false, false},
		{api.Fall{At: 1, Keep: 1}, true, false},
		{api.Fall{At: 2, Keep: 0, Sync: true}, false, false},
		{api.Fall{At: 2, Keep: 1, Torn: 9, Sync: true}, true, false},
		{api.Fall{At: 2, Keep: 2, Sync: true}, true, true},
	} {
		d := holding(t, file+tail)
		answers(t, d.Write("j.tmp", 0, wantFile(4, "new")), api.OK)
		answers(t, d.Sync(), api.OK)
		x.fall.At += d.Changes()
		d.Plan([]api.Fall{x.fall})
		refuses(t, d, "j", api.ErrDead)
		d.Up()
		names, left, torn := []string{"j"}, file, 0
		if !x.aside {
			names = append(names, "j.tmp")
		}
		if !x.cut {
			left, torn = file+tail, len(tail)
		}
		checkNames(t, d, names...)
		checkFile(t, d, "j", left)
		checkTells(t, opens(t, d, "j"), 3, []string{"a", "bb"}, torn, false)
		checkNames(t, d, "j")
		checkFile(t, d, "j", file)
		if d.Loose() != 0 && torn > 0 {
			t.Fatal("what was cut away is not sure")
		}
	}
}
