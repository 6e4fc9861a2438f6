package store

import (
	"maps"
	"math/rand"
	"slices"
	"testing"

	"bedrock/api"
	"bedrock/disk"
)

// call is something that is done to a store.
type call struct {
	kind string // put, flush, prune, open, crash
	body string
	file int
	keep int // of a crash, with torn
	torn int
}

func put(long, seed int) call { return call{kind: "put", body: text(long, seed)} }
func prune(file int) call     { return call{kind: "prune", file: file} }

// script is a row of calls that has each kind behind each kind.
func script() []call {
	flush, open := call{kind: "flush"}, call{kind: "open"}
	return []call{
		open, put(3, 1), flush, put(500, 2), put(600, 3), open, flush, flush, prune(0), put(0, 0), open, prune(0),
		put(300, 4), flush, put(8192, 5), put(1, 6), prune(1), prune(2), flush, prune(2), prune(3), put(900, 7), prune(3), put(200, 8), open, put(2, 9),
	}
}

// played is a disk with its store, the model of both, what was put at each place ever, and of what was sure at the last Sync where it stands.
type played struct {
	d    *disk.Disk
	s    *Store
	m    *model
	ever map[api.Pos][]string
	sure map[api.Pos]string
}

func begins(most int, plan ...api.Fall) *played {
	p := &played{d: disk.New(), m: newModel(most), ever: map[api.Pos][]string{}, sure: map[api.Pos]string{}}
	p.d.Plan(plan)
	p.m.plan = slices.Clone(plan)
	return p
}

// does makes a call to both, and asks that both tell the same; it tells whether the power is on.
func (p *played) does(t *testing.T, c call) bool {
	t.Helper()
	switch c.kind {
	case "open":
		return p.opens(t)
	case "put":
		at, e := p.m.put(c.body)
		puts(t, p.s, c.body, at, e)
		if e == api.OK {
			p.ever[at] = append(p.ever[at], c.body)
		}
	case "flush":
		e := p.m.sync()
		answers(t, p.s.Flush(), e)
		if e == api.OK {
			p.sure = places(p.m.now())
		}
	case "prune":
		e := p.m.prune(c.file)
		answers(t, p.s.Prune(c.file), e)
		if e == api.OK {
			maps.DeleteFunc(p.sure, func(at api.Pos, _ string) bool { return at.File == c.file })
		}
	case "crash":
		p.d.Crash(c.keep, c.torn)
		p.m.fall(c.keep, c.torn)
	}
	return p.same(t)
}

// places is all bodies of files by where they stand.
func places(files state) map[api.Pos]string {
	l := map[api.Pos]string{}
	for n, file := range files {
		here, _ := wantScan(n, file)
		for _, at := range here {
			l[at] = wantBody(file, at.At)
		}
	}
	return l
}

// opens opens the store anew.
func (p *played) opens(t *testing.T) bool {
	t.Helper()
	s, e := Open(p.d, "blk", p.m.most)
	want := p.m.open()
	if e != want || (s != nil) != (e == api.OK) {
		t.Fatalf("Open: %v, %d, not %d", s, e, want)
	}
	if e != api.OK {
		return false
	}
	p.s = s
	if p.m.torn > 0 {
		p.sure = places(p.m.now())
	}
	return p.same(t)
}

// same asks what store and disk tell, and tells whether the power is on.
func (p *played) same(t *testing.T) bool {
	t.Helper()
	now := p.m.now()
	if p.d.Dead() {
		checkDead(t, p.s, p.d, now, p.m.torn)
		return false
	}
	checkTells(t, p.s, now, p.m.torn)
	checkDisk(t, p.d, now)
	checkCounts(t, p.d, p.m.made, len(p.m.loose))
	// What follows: what was flushed is got, and what is got was put.
	for at, body := range p.sure {
		gets(t, p.s, at, body, api.OK)
	}
	for at, body := range places(now) {
		if !slices.Contains(p.ever[at], body) {
			t.Fatalf("%v was never put", at)
		}
	}
	return true
}

// rises turns the power on, and opens until it stands up; then once more, which is as once.
func (p *played) rises(t *testing.T) {
	t.Helper()
	for tries := 0; ; tries++ {
		if tries > 100 || !p.d.Up() {
			t.Fatal("it does not stand up")
		}
		if p.opens(t) {
			break
		}
	}
	made := p.d.Changes()
	if !p.opens(t) || p.d.Changes() != made || p.s.Torn() != 0 {
		t.Fatal("opening twice is not as once")
	}
}

// checkFalls plays a script; whatever falls, the store is opened anew, and the script goes on.
func checkFalls(t *testing.T, p *played, l []call) {
	t.Helper()
	for _, c := range l {
		if !p.does(t, c) {
			p.rises(t)
		}
	}
}

// changes is how many changes a script makes.
func changes(t *testing.T, l []call) int {
	t.Helper()
	p := begins(1024)
	for _, c := range l {
		if !p.does(t, c) {
			t.Fatal("a fall out of nothing")
		}
	}
	return p.m.made
}

// Promise 18.5: falls at every change and every Sync, with every part of what is loose.
func TestFalls(t *testing.T) {
	l := script()
	for at := range changes(t, l) + 2 {
		for _, sync := range []bool{false, true} {
			for keep := range 5 {
				for _, torn := range []int{0, 1, 8, 12, 13, 600, 1 << 20} {
					checkFalls(t, begins(1024, api.Fall{At: at, Keep: keep, Torn: torn, Sync: sync}), l)
				}
			}
		}
	}
}

// Promise 18.5: falls while standing up from a fall.
func TestFallsWhileOpening(t *testing.T) {
	l := script()
	for at := range changes(t, l) + 1 {
		for _, keep := range []int{0, 1, 2} {
			first := api.Fall{At: at, Keep: keep, Torn: 9}
			for _, sync := range []bool{false, true} {
				for next := at; next < at+4; next++ {
					checkFalls(t, begins(1024, first, api.Fall{At: next, Keep: keep, Torn: 5, Sync: sync}), l)
					checkFalls(t, begins(1024, first, api.Fall{At: next, Sync: sync}, api.Fall{At: next, Sync: !sync}), l)
				}
			}
		}
	}
}

// Promise 18.5: a body that is torn at each of its bytes is cut away when the store is opened, and nothing else.
func TestTornAnywhere(t *testing.T) {
	body := text(60, 2)
	for torn := range 74 {
		d := disk.New()
		s := opens(t, d, 1024)
		puts(t, s, "a", api.Pos{Long: 1}, api.OK)
		answers(t, s.Flush(), api.OK)
		puts(t, s, "b", api.Pos{At: 13, Long: 1}, api.OK)
		puts(t, s, body, api.Pos{At: 26, Long: 60}, api.OK)
		d.Crash(1, torn)
		d.Up()
		want, left := state{0: wantFile("a", "b")}, torn
		if torn >= 72 {
			want, left = state{0: wantFile("a", "b", body)}, 0
		}
		checkTells(t, opens(t, d, 1024), want, left)
		checkDisk(t, d, want)
	}
}

// someCall is a call by lots; most bodies have at most so many bytes.
func someCall(lots *rand.Rand, last, long int) call {
	switch lots.Intn(16) {
	case 0, 1:
		return call{kind: "flush"}
	case 2:
		return call{kind: "open"}
	case 3:
		return call{kind: "crash", keep: lots.Intn(8) - 1, torn: lots.Intn(700) - 1}
	case 4, 5, 6:
		return prune(lots.Intn(last+3) - 1)
	case 7:
		return put(lots.Intn(9000), lots.Intn(1000))
	case 8:
		return put(lots.Intn(4), lots.Intn(1000))
	}
	return put(1+lots.Intn(long), lots.Intn(1000))
}

// somePlan is falls by lots.
func somePlan(lots *rand.Rand) []api.Fall {
	plan := make([]api.Fall, lots.Intn(6))
	for i := range plan {
		plan[i] = api.Fall{At: lots.Intn(50), Keep: lots.Intn(6) - 1, Torn: lots.Intn(700) - 1, Sync: lots.Intn(2) == 0}
	}
	return plan
}

// Promise 18.5: long rows of calls by lots, with falls by lots, up to the last file that may be.
func TestFallsByLots(t *testing.T) {
	ends := 0
	for seed := range int64(150) {
		lots := rand.New(rand.NewSource(seed))
		p := begins(1024+lots.Intn(2)*lots.Intn(2000), somePlan(lots)...)
		if !p.opens(t) {
			p.rises(t)
		}
		calls, long := 40, 600
		if seed%15 == 0 {
			calls, long = 120, 2000
		}
		for range calls {
			if !p.does(t, someCall(lots, p.m.last(), long)) {
				p.rises(t)
			}
		}
		if _, e := p.m.put(text(8192, 1)); e == api.ErrStore {
			ends++
		}
	}
	if ends == 0 {
		t.Error("no row of calls came to the last file that may be")
	}
}
