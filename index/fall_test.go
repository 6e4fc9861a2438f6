package index

import (
	"math/rand"
	"slices"
	"testing"

	"bedrock/api"
	"bedrock/disk"
	"bedrock/journal"
)

// call is something that is done to an index.
type call struct {
	kind string // put, flush, compact, open
	e    api.Entry
}

// script is a row of calls in which each put tells something new.
func script() []call {
	put := func(e api.Entry) call { return call{"put", e} }
	flush, compact, open := call{kind: "flush"}, call{kind: "compact"}, call{kind: "open"}
	l := row(6)
	return []call{
		open, put(l[0]), flush, put(l[1]), put(with(l[0], 1)), put(l[2]), flush, put(with(l[1], 1)), open,
		put(l[3]), put(with(l[2], 2)), put(alone(1)), compact, put(with(l[0], 3)), put(l[4]), flush, compact,
		put(on(alone(1), 1)), put(with(alone(1), 4)), put(l[5]), open, flush, put(with(l[5], 1)), compact, compact, open,
	}
}

// life is an index on its disk, with all that was put and was not lost.
type life struct {
	d       *disk.Disk
	x       *Index
	put     []api.Entry
	sure    int // how many of these were put ahead of the last Flush or Compact, or stayed behind the last fall
	records int // what the journal has
	loose   int
}

func begins(plan ...api.Fall) *life {
	p := &life{d: disk.New()}
	p.d.Plan(plan)
	return p
}

// does makes a call, and asks for its answer; it tells whether the power is on.
func (p *life) does(t *testing.T, c call) bool {
	t.Helper()
	if c.kind == "open" {
		return p.opens(t)
	}
	want, e, made := api.OK, api.OK, p.d.Changes()
	switch c.kind {
	case "put":
		want, e = wantPut(played(p.put), c.e), p.x.Put(c.e)
	case "flush":
		e = p.x.Flush()
	case "compact":
		e = p.x.Compact()
	}
	if e == api.ErrDead && want == api.OK && p.d.Dead() {
		checkTells(t, p.x, played(p.put), p.records, p.loose)
		// Changes stay in their order: if what Compact writes or moves stayed, so did all records ahead of it.
		if slices.Contains(p.d.Names(), "i.tmp") || p.d.Changes() == made+2 {
			p.sure = len(p.put)
		}
		return false
	}
	if e != want {
		t.Fatalf("%s: %d, not %d", c.kind, e, want)
	}
	if e == api.OK {
		p.did(c)
	}
	checkTells(t, p.x, played(p.put), p.records, p.loose)
	return true
}

// did has what a call that is answered OK does.
func (p *life) did(c call) {
	switch c.kind {
	case "put":
		p.put = append(p.put, c.e)
		p.records++
		p.loose++
		return
	case "compact":
		p.records = len(played(p.put))
	}
	p.sure, p.loose = len(p.put), 0
}

// opens opens the index anew: behind a fall it has what the journal tells, which is what some of the records that were put make.
func (p *life) opens(t *testing.T) bool {
	t.Helper()
	told, e := journal.Open(p.d.Clone(), "i")
	x, n, err := Open(p.d, "i")
	if err == api.ErrDead && e == api.ErrDead && p.d.Dead() {
		return false
	}
	if e != api.OK || err != api.OK || n != told.Len() {
		t.Fatalf("Open: %d, %d, of %d records, %d", n, err, told.Len(), e)
	}
	p.x, p.records, p.loose = x, n, 0
	checkTells(t, x, played(p.put), n, 0)
	checkStand(t, x.All())
	return true
}

// checkStand asks that every entry's Prev is there, but of height 0.
func checkStand(t *testing.T, l []api.Entry) {
	t.Helper()
	for i, x := range l {
		if prev := find(l[:i], x.Header.Prev); x.Height != 0 && (prev < 0 || l[prev].Height+1 != x.Height) {
			t.Fatalf("an entry stands on nothing: %v", x)
		}
	}
}

// loses has what stays behind a fall that leaves some of the loose changes, and some bytes of the next one.
func (p *life) loses(keep, torn int) {
	stay := p.sure + max(keep, 0)
	if torn >= 97+16 {
		stay++
	}
	p.put = p.put[:min(stay, len(p.put))]
	p.sure = len(p.put)
}

// rises turns the power on, and opens until it stands up; then once more, which is as once.
func (p *life) rises(t *testing.T) {
	t.Helper()
	for tries := 0; ; tries++ {
		if tries > 50 || !p.d.Up() {
			t.Fatal("it does not stand up")
		}
		if p.opens(t) {
			break
		}
	}
	was := lookAt(t, p.d)
	if !p.opens(t) {
		t.Fatal("opening twice is not as once")
	}
	checkLook(t, p.d, was)
}

// plays makes calls under a plan of one fall, and goes on behind it.
func (p *life) plays(t *testing.T, l []call, f api.Fall) {
	t.Helper()
	for _, c := range l {
		if !p.does(t, c) {
			p.loses(f.Keep, f.Torn)
			p.rises(t)
		}
	}
}

// changes is how many changes a script makes.
func changes(t *testing.T, l []call) int {
	t.Helper()
	p := begins()
	for _, c := range l {
		if !p.does(t, c) {
			t.Fatal("a fall out of nothing")
		}
	}
	return p.d.Changes()
}

// Promise 13.5: falls at every change and every sync, with none, some and all of the loose changes kept, and parts of the next one.
func TestFalls(t *testing.T) {
	l := script()
	for at := range changes(t, l) + 2 {
		for _, sync := range []bool{false, true} {
			for _, keep := range []int{-1, 0, 1, 2, 3, 4, 100} {
				for _, torn := range []int{0, 1, 20, 96, 97, 112, 113, 1000} {
					f := api.Fall{At: at, Keep: keep, Torn: torn, Sync: sync}
					begins(f).plays(t, l, f)
				}
			}
		}
	}
}

// Promise 13.5: falls while it stands up, at every change and sync of that; what stayed at the first fall is not lost by others.
func TestFallsWhileOpening(t *testing.T) {
	l := script()
	for at := range changes(t, l) + 1 {
		for _, keep := range []int{0, 1, 2} {
			for _, torn := range []int{0, 50, 112} {
				for _, then := range []bool{false, true} {
					f := api.Fall{At: at, Keep: keep, Torn: torn}
					again := api.Fall{At: at, Keep: keep, Torn: torn, Sync: then}
					begins(f, again).plays(t, l, f)
					again.At++
					begins(f, again).plays(t, l, f)
				}
			}
		}
	}
}

// Promise 13.5: the power fails behind each call.
func TestCrashes(t *testing.T) {
	l := script()
	for n := 1; n <= len(l); n++ {
		for _, keep := range []int{0, 1, 2, 3, 100} {
			for _, torn := range []int{0, 1, 112, 113} {
				p := begins()
				for _, c := range l[:n] {
					p.does(t, c)
				}
				p.d.Crash(keep, torn)
				p.loses(keep, torn)
				p.rises(t)
			}
		}
	}
}

// someCall is a call by lots: entries on those that are there and on others, with heights and states that are right mostly.
func someCall(lots *rand.Rand, l []api.Entry) call {
	switch lots.Intn(12) {
	case 0, 1:
		return call{kind: "flush"}
	case 2:
		return call{kind: "compact"}
	case 3:
		return call{kind: "open"}
	}
	e := alone(uint32(lots.Intn(3)))
	if len(l) > 0 && lots.Intn(4) > 0 {
		e = l[lots.Intn(len(l))]
	}
	if lots.Intn(2) == 0 {
		e = on(e, uint32(lots.Intn(3)))
	}
	if lots.Intn(8) == 0 {
		e.Height += lots.Intn(3) - 1
	}
	return call{"put", with(e, lots.Intn(17))}
}

// Promises 13.3 to 13.5: long rows of calls by lots, with the power failing by lots.
func TestByLots(t *testing.T) {
	for seed := range int64(500) {
		lots := rand.New(rand.NewSource(seed))
		p := begins()
		p.opens(t)
		for range 60 {
			if lots.Intn(10) > 0 {
				p.does(t, someCall(lots, played(p.put)))
				continue
			}
			keep, torn := lots.Intn(5)-1, lots.Intn(200)
			p.d.Crash(keep, torn)
			p.loses(keep, torn)
			p.rises(t)
		}
	}
}

// Promise 13.5, without a model of what stays: the entries are those of some beginning of what was put, all that was flushed with it.
func TestSureStays(t *testing.T) {
	sure, loose := row(4), []api.Entry{with(first(), 1), on(first(), 60), alone(1), with(first(), 2)}
	whole := slices.Concat(sure, loose)
	for keep := range 6 {
		for torn := range 120 {
			d := disk.New()
			x := opens(t, d, 0)
			puts(t, x, sure...)
			answers(t, x.Flush(), api.OK)
			puts(t, x, loose...)
			d.Crash(keep, torn)
			d.Up()
			x, n, e := Open(d, "i")
			if e != api.OK || n < 4+min(keep, 4) || n > len(whole) {
				t.Fatalf("Crash(%d, %d): %d, %d", keep, torn, n, e)
			}
			checkTells(t, x, played(whole[:n]), n, 0)
		}
	}
}
