package addr

import (
	"math"
	"math/rand"
	"testing"

	"bedrock/api"
)

// Promises 19.1 to 19.6: any script of all calls does what the model does.
func TestScripts(t *testing.T) {
	for script := range 150 {
		lots := rand.New(rand.NewSource(int64(script)))
		secret := someKeys(lots)
		p := pair{New(secret), newModel(secret)}
		for range 400 {
			p = step(t, lots, p)
			checkBook(t, p.b, p.m)
		}
	}
}

// step does one thing by lots to a book and its model.
func step(t *testing.T, lots *rand.Rand, p pair) pair {
	a, now := someNet(lots), someTime(lots)
	if all := p.m.all(); len(all) > 0 && lots.Intn(2) == 0 {
		a.IP, a.Port = all[lots.Intn(len(all))].Net.IP, all[0].Net.Port
	}
	switch lots.Intn(12) {
	case 0, 1, 2, 3:
		bothAdd(t, p.b, p.m, a, someNet(lots), now)
	case 4, 5:
		bothGood(t, p.b, p.m, a, now)
	case 6, 7:
		for range 1 + lots.Intn(5) {
			bothTried(t, p.b, p.m, a, now)
		}
	case 8:
		bothDrop(t, p.b, p.m, a)
	case 9:
		checkAsks(t, p.b, p.m, now, lots.Uint64()>>lots.Intn(64), lots.Intn(20)-2)
	case 10:
		return turn(t, lots, p)
	default:
		known, there := p.b.Get(a)
		s, is := p.m.find(a)
		want := api.Known{}
		if is {
			want = p.m.places[s]
		}
		if there != is || known != want {
			t.Fatalf("Get(%v): %v, %v", a, known, there)
		}
	}
	return p
}

// turn is a book by another way: its clone, what its bytes tell, or itself when its clone was moved.
func turn(t *testing.T, lots *rand.Rand, p pair) pair {
	switch lots.Intn(3) {
	case 0:
		return pair{p.b.Clone(), p.m}
	case 1:
		b, at, e := Decode(p.m.secret, p.b.Encode())
		if at != 0 || e != api.OK {
			t.Fatal(at, e)
		}
		return pair{b, p.m}
	}
	c := pair{p.b.Clone(), p.m.clone()}
	for range 5 {
		bothAdd(t, c.b, c.m, someNet(lots), someNet(lots), someTime(lots))
		bothGood(t, c.b, c.m, someNet(lots), someTime(lots))
	}
	checkBook(t, c.b, c.m)
	return p
}

// Promises 19.1 to 19.4: a book into which many are told, and of which some answer, does what the model does.
func TestLongScripts(t *testing.T) {
	for script := range 3 {
		lots := rand.New(rand.NewSource(int64(1000 + script)))
		p := somePair(t, lots, 4000)
		for range 50 {
			checkAsks(t, p.b, p.m, someTime(lots), lots.Uint64(), lots.Intn(60))
		}
		checkBook(t, p.b, p.m)
	}
}

// Rule R5: what a call asks changes nothing.
func TestAsking(t *testing.T) {
	for _, p := range somePairs(t) {
		for _, lot := range []uint64{0, math.MaxUint64} {
			for _, known := range append([]api.Known{{}}, p.m.all()[:min(len(p.m.all()), 15)]...) {
				p.b.Pick(lot, clockNow, false)
				p.b.Pick(lot, clockNow, true)
				p.b.Some(lot, clockNow, 9)
				p.b.Terrible(known.Net, clockNow)
				p.b.Bucket(known.Net, known.Source, true)
				p.b.Get(known.Net)
				p.b.Clone()
				for range 2 {
					if !sameList(p.b.All(), p.b.All()) || p.b.Encode() != p.b.Encode() {
						t.Fatal("two answers")
					}
				}
			}
		}
		checkBook(t, p.b, p.m)
	}
}
