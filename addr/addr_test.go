package addr

import (
	"math/rand"
	"testing"

	"bedrock/api"
)

// The chapter's example.
func TestExample(t *testing.T) {
	b := New(api.Keys{})
	a, s := net(1, 1), net(2, 2)
	if is, e := b.Add(api.Net{IP: a.IP}, s, 100); is || e != api.ErrAddr {
		t.Error(is, e)
	}
	a.Time = 100
	if is, e := b.Add(a, s, 100); !is || e != api.OK {
		t.Error(is, e)
	}
	if is, e := b.Add(a, s, 100); is || e != api.OK {
		t.Error(is, e)
	}
	if e := b.Good(a, 200); e != api.OK {
		t.Error(e)
	}
	if fresh, tried := b.Len(); fresh != 0 || tried != 1 {
		t.Error(fresh, tried)
	}
}

// wrongNets is addresses that may not be.
func wrongNets() []api.Net {
	a := net(1, 1)
	return []api.Net{{}, {IP: a.IP}, {Port: 5}, {Time: 1, Services: 1, IP: a.IP}, {Time: 1, Services: 1, Port: 65535}}
}

// Promise 19.2: of an address or a source that may not be Add is ErrAddr, and changes nothing; of a source that is another one, or the address itself, all is well.
func TestAddWrong(t *testing.T) {
	b, m := New(api.Keys{}), newModel(api.Keys{})
	for _, wrong := range wrongNets() {
		bothAdd(t, b, m, wrong, net(1, 1), 1000000)
		bothAdd(t, b, m, net(1, 1), wrong, 1000000)
		bothAdd(t, b, m, wrong, wrong, 1000000)
		if is, e := b.Add(net(1, 1), wrong, 1000000); is || e != api.ErrAddr {
			t.Fatal(is, e)
		}
	}
	checkBook(t, b, m)
	bothAdd(t, b, m, net(1, 1), net(1, 1), 1000000)
	for _, wrong := range wrongNets() {
		kept := net(1, 1)
		kept.Time, kept.Services = 2000000, 64
		if is, e := b.Add(kept, wrong, 1000000); is || e != api.ErrAddr {
			t.Fatal(is, e)
		}
	}
	checkBook(t, b, m)
}

// Promise 19.2: of one that is kept, in either table, its Time is the greater one, and its Services have both's bits; nothing else is changed.
func TestAddKept(t *testing.T) {
	for _, inTried := range []bool{false, true} {
		for _, time := range []uint32{0, 999999, 1000000, 1000001, 4294967295} {
			for _, services := range []uint64{0, 1, 6, 1 << 63} {
				b, m := New(api.Keys{K1: 3}), newModel(api.Keys{K1: 3})
				a := net(1, 1)
				bothAdd(t, b, m, a, net(2, 2), 1000000)
				bothTried(t, b, m, a, 800000)
				if inTried {
					bothGood(t, b, m, a, 900000)
				}
				a.Time, a.Services = time, services
				if is, e := b.Add(a, net(3, 3), 1000000); is || e != api.OK {
					t.Fatal(is, e)
				}
				m.add(a, net(3, 3), 1000000)
				checkBook(t, b, m)
				known, _ := b.Get(a)
				if known.Net.Time != max(time, 1000000) || known.Net.Services != 1|services || known.Source != net(2, 2) {
					t.Fatalf("%v", known)
				}
			}
		}
	}
}

// rivals is two addresses of a source group with one place in the new table.
func rivals(secret api.Keys) (api.Net, api.Net) {
	a := net(1, 1)
	for i := uint32(2); ; i++ {
		if wantSpot(secret, a, net(9, 1), false) == wantSpot(secret, net(1, i), net(9, 1), false) {
			return a, net(1, i)
		}
	}
}

// Promise 19.2: what stands in its place gives way where it is terrible, and else stays.
func TestAddHeld(t *testing.T) {
	for n := range 20 {
		secret := api.Keys{K0: uint64(n)}
		a, other := rivals(secret)
		for _, c := range []struct {
			now  uint32
			want bool
		}{{999399, true}, {999400, false}, {1000000, false}, {3592000, false}, {3592001, true}} {
			b, m := New(secret), newModel(secret)
			if !bothAdd(t, b, m, a, net(9, 1), 5) {
				t.Fatal("a free place is not taken")
			}
			if is := bothAdd(t, b, m, other, net(9, 2), c.now); is != c.want {
				t.Fatalf("at %d: %v", c.now, is)
			}
			if _, there := b.Get(a); there == c.want {
				t.Fatalf("at %d the one that was there: %v", c.now, there)
			}
			if known, there := b.Get(other); there != c.want || there && known != (api.Known{Net: other, Source: net(9, 2)}) {
				t.Fatalf("at %d: %v, %v", c.now, known, there)
			}
			checkBook(t, b, m)
		}
	}
}

// Promise 19.2: an address that is terrible itself is taken all the same, and gives way to another one.
func TestAddTerrible(t *testing.T) {
	secret := api.Keys{K0: 5}
	a, other := rivals(secret)
	a.Time, other.Time = 4000000000, 0
	b, m := New(secret), newModel(secret)
	for range 3 {
		if !bothAdd(t, b, m, a, net(9, 1), 3000000) || !b.Terrible(a, 3000000) {
			t.Fatal("not taken")
		}
		if !bothAdd(t, b, m, other, net(9, 1), 3000000) || b.Terrible(a, 3000000) {
			t.Fatal("does not give way")
		}
		checkBook(t, b, m)
	}
}

// Promise 19.3: of one that may not be Good and Tried are ErrAddr, of one that is not kept ErrNone; nothing is changed.
func TestGoodWrong(t *testing.T) {
	p := somePair(t, rand.New(rand.NewSource(8)), 40)
	for _, wrong := range wrongNets() {
		if e := p.b.Good(wrong, 1000000); e != api.ErrAddr {
			t.Error(e)
		}
		if e := p.b.Tried(wrong, 1000000); e != api.ErrAddr {
			t.Error(e)
		}
		if p.b.Drop(wrong) || p.b.Terrible(wrong, 0) || p.b.Terrible(wrong, 1000000000) {
			t.Error("it is kept")
		}
		if known, there := p.b.Get(wrong); there || known != (api.Known{}) {
			t.Error(known)
		}
	}
	strange := net(60000, 1)
	if e := p.b.Good(strange, 1000000); e != api.ErrNone {
		t.Error(e)
	}
	if e := p.b.Tried(strange, 1000000); e != api.ErrNone {
		t.Error(e)
	}
	if p.b.Drop(strange) || p.b.Terrible(strange, 4000000000) {
		t.Error("it is kept")
	}
	if known, there := p.b.Get(strange); there || known != (api.Known{}) {
		t.Error(known)
	}
	checkBook(t, p.b, p.m)
}

// Promise 19.1: an address is one by its IP and its port.
func TestGetHangsOn(t *testing.T) {
	b := New(api.Keys{})
	a := net(1, 1)
	b.Add(a, net(2, 2), 1000000)
	like := a
	like.Time, like.Services = 5, 99
	if known, there := b.Get(like); !there || known.Net != a {
		t.Error(known, there)
	}
	for at := range 17 {
		other := a
		if at < 16 {
			other.IP[at]++
		} else {
			other.Port++
		}
		if _, there := b.Get(other); there || b.Drop(other) || b.Good(other, 5) != api.ErrNone || b.Tried(other, 5) != api.ErrNone {
			t.Errorf("%v is taken for %v", other, a)
		}
	}
	if b.Good(like, 1000005) != api.OK || b.Tried(like, 1000006) != api.OK {
		t.Error("another time and other services make another one")
	}
	known, _ := b.Get(like)
	if want := (api.Net{Time: 1000005, Services: 1, IP: a.IP, Port: a.Port}); known.Net != want {
		t.Error(known.Net)
	}
	if !b.Drop(like) {
		t.Error("it is not dropped")
	}
}

// Promise 19.3: of one that is in the new table, and of one that is in the tried one already, Last and Tried are now, Fails 0, and Time is now, if that is greater.
func TestGood(t *testing.T) {
	for _, now := range []uint32{0, 1, 999999, 1000000, 1000001, 4294967295} {
		b, m := New(api.Keys{K0: 9}), newModel(api.Keys{K0: 9})
		a := net(1, 1)
		bothAdd(t, b, m, a, net(2, 2), 1000000)
		for range 3 {
			bothTried(t, b, m, a, 5)
			bothGood(t, b, m, a, now)
			checkBook(t, b, m)
			want := api.Known{Net: a, Source: net(2, 2), Last: now, Tried: now, InTried: true}
			want.Net.Time = max(now, 1000000)
			if known, _ := b.Get(a); known != want {
				t.Fatalf("%v, not %v", known, want)
			}
			if fresh, tried := b.Len(); fresh != 0 || tried != 1 {
				t.Fatal(fresh, tried)
			}
		}
		bothGood(t, b, m, a, 7) // a clock that goes back is told, too
		checkBook(t, b, m)
	}
}

// way is how an address is moved out of the tried table: what stands in the new place to which it goes.
type way int

const (
	free way = iota
	third
	left
)

// movers is an address that stands in the tried place to which another one is to go, and one that stands in the way back.
func movers(secret api.Keys, w way) (api.Net, api.Net, api.Net) {
	for i := uint32(1); ; i++ {
		old, young := net(1, i), net(1, i+1000000)
		if wantSpot(secret, old, old, true) != wantSpot(secret, young, young, true) {
			continue
		}
		same := wantSpot(secret, old, net(9, 1), false) == wantSpot(secret, young, net(9, 1), false)
		if same != (w == left) {
			continue
		}
		for j := uint32(2000000); ; j++ {
			other := net(1, j)
			if w != third || wantSpot(secret, other, net(9, 1), false) == wantSpot(secret, old, net(9, 1), false) {
				return old, young, other
			}
		}
	}
}

// Promise 19.3: the one that is there moves back to its new bucket and place, by its own source: to a free one, to one that is held, to the very one that was left.
func TestGoodMoves(t *testing.T) {
	for n := range 20 {
		secret := api.Keys{K1: uint64(n)}
		for _, w := range []way{free, third, left} {
			old, young, other := movers(secret, w)
			b, m := New(secret), newModel(secret)
			bothAdd(t, b, m, old, net(9, 1), 1000000)
			bothGood(t, b, m, old, 1000001)
			bothTried(t, b, m, old, 1000002)
			bothAdd(t, b, m, young, net(9, 2), 1000000)
			if w == third {
				bothAdd(t, b, m, other, net(9, 3), 1000000)
			}
			checkBook(t, b, m)
			bothGood(t, b, m, young, 1000003)
			checkBook(t, b, m)
			if fresh, tried := b.Len(); fresh != 1 || tried != 1 {
				t.Fatalf("%d: %d, %d", w, fresh, tried)
			}
			if _, there := b.Get(other); there {
				t.Fatalf("%d: the one that stood in the way back is there", w)
			}
			old.Time = 1000001
			if known, _ := b.Get(old); known != (api.Known{Net: old, Source: net(9, 1), Last: 1000001, Tried: 1000002, Fails: 1}) {
				t.Fatalf("%d: %v", w, known)
			}
			young.Time = 1000003
			if known, _ := b.Get(young); known != (api.Known{Net: young, Source: net(9, 2), Last: 1000003, Tried: 1000003, InTried: true}) {
				t.Fatalf("%d: %v", w, known)
			}
			bothGood(t, b, m, old, 1000004) // and they change places again
			bothGood(t, b, m, young, 1000005)
			checkBook(t, b, m)
		}
	}
}

// Promise 19.3: one that moved back goes by its own source, not by that of the one that took its place.
func TestGoodOwnSource(t *testing.T) {
	secret := api.Keys{K0: 77}
	old, young, _ := movers(secret, free)
	b, m := New(secret), newModel(secret)
	bothAdd(t, b, m, old, net(9, 1), 1000000)
	bothGood(t, b, m, old, 1000000)
	for from := uint16(10); from < 200; from++ {
		c, n := b.Clone(), m.clone()
		bothAdd(t, c, n, young, net(from, 1), 1000000)
		bothGood(t, c, n, young, 1000000)
		checkBook(t, c, n)
	}
}

// Promise 19.3: a try is counted up to 1000, in either table.
func TestTried(t *testing.T) {
	for _, inTried := range []bool{false, true} {
		b, m := New(api.Keys{}), newModel(api.Keys{})
		a := net(1, 1)
		bothAdd(t, b, m, a, net(2, 2), 1000000)
		if inTried {
			bothGood(t, b, m, a, 1000000)
		}
		for i := range 1010 {
			now := uint32(2000000 - 3*i)
			bothTried(t, b, m, a, now)
			known, _ := b.Get(a)
			if known.Fails != min(i+1, 1000) || known.Tried != now || known.InTried != inTried {
				t.Fatalf("behind %d: %v", i, known)
			}
		}
		checkBook(t, b, m)
	}
}

// Promise 19.3: what is dropped is gone, and is not dropped twice.
func TestDrop(t *testing.T) {
	for _, p := range somePairs(t) {
		for _, known := range p.m.all() {
			a := api.Net{IP: known.Net.IP, Port: known.Net.Port}
			b, m := p.b.Clone(), p.m.clone()
			for range 2 {
				bothDrop(t, b, m, a)
			}
			checkBook(t, b, m)
			if _, there := b.Get(a); there || b.Tried(a, 5) != api.ErrNone || b.Good(a, 5) != api.ErrNone {
				t.Fatal("it is not gone")
			}
			bothAdd(t, b, m, known.Net, known.Source, 1000000)
			checkBook(t, b, m)
		}
		for _, known := range p.m.all() {
			bothDrop(t, p.b, p.m, known.Net)
		}
		checkBook(t, p.b, p.m)
		if len(p.b.All()) != 0 {
			t.Fatal("something is left")
		}
	}
}

// Promise 19.6: a clone is the same, and neither moves the other.
func TestClone(t *testing.T) {
	for _, p := range somePairs(t) {
		c := p.b.Clone()
		checkBook(t, c, p.m)
		for _, known := range p.m.all() {
			c.Tried(known.Net, 77)
			c.Good(known.Net, 99)
		}
		for i := range 200 {
			c.Add(net(uint16(i), 7), net(uint16(i), 8), 4000000000)
		}
		checkBook(t, p.b, p.m)
		c = p.b.Clone()
		for _, known := range p.m.all() {
			c.Drop(known.Net)
		}
		checkBook(t, c, newModel(p.m.secret))
		checkBook(t, p.b, p.m)
		c, n := p.b.Clone(), p.m.clone()
		for _, known := range p.m.all() {
			p.b.Drop(known.Net)
		}
		p.b.Add(net(500, 7), net(2, 8), 1000000)
		checkBook(t, c, n)
		for i := range 50 { // it has the secret, too
			bothAdd(t, c, n, net(uint16(500+i), 7), net(uint16(i), 8), 1000000)
		}
		checkBook(t, c, n)
	}
}

// Rule R4: lists that were handed out move nothing, and share nothing.
func TestHandedOut(t *testing.T) {
	for _, p := range somePairs(t) {
		all, some := p.b.All(), p.b.Some(3, clockNow, 1000)
		again, more := p.b.All(), p.b.Some(3, clockNow, 1000)
		for _, l := range [][]api.Known{all[:cap(all)]} {
			for i := range l {
				l[i] = api.Known{Fails: 77}
			}
		}
		for i := range some[:cap(some)] {
			some[:cap(some)][i] = api.Net{Port: 77}
		}
		if !sameList(again, p.m.all()) || !sameList(more, p.m.some(3, clockNow, 1000)) {
			t.Fatal("two answers share")
		}
		checkBook(t, p.b, p.m)
	}
}

// Promise 19.6: what a book with room for all keeps is bounded.
func TestBound(t *testing.T) {
	p := somePair(t, rand.New(rand.NewSource(20)), 30000)
	checkBook(t, p.b, p.m)
	if n := len(p.b.All()); n < 160 || n > 192 {
		t.Errorf("%d are kept", n)
	}
}

// Promise 19.6: each method of a nil Book.
func TestNil(t *testing.T) {
	var b *Book
	for _, a := range append(wrongNets(), net(1, 1)) {
		for _, source := range append(wrongNets(), net(2, 2)) {
			if is, e := b.Add(a, source, 5); is || e != api.ErrArg {
				t.Error(is, e)
			}
			for _, tried := range []bool{false, true} {
				if bucket, place := b.Bucket(a, source, tried); bucket != 0 || place != 0 {
					t.Error(bucket, place)
				}
				if got, is := b.Pick(7, 5, tried); is || got != (api.Net{}) {
					t.Error(got, is)
				}
			}
		}
		if b.Good(a, 5) != api.ErrArg || b.Tried(a, 5) != api.ErrArg {
			t.Error("not ErrArg")
		}
		if known, there := b.Get(a); there || known != (api.Known{}) {
			t.Error(known)
		}
		if b.Drop(a) || b.Terrible(a, 5) || b.Terrible(a, 4000000000) {
			t.Error("it keeps one")
		}
	}
	if fresh, tried := b.Len(); fresh != 0 || tried != 0 {
		t.Error(fresh, tried)
	}
	if b.All() != nil || b.Some(1, 5, 5) != nil || b.Clone() != nil || b.Encode() != "\x00\x00\x00\x00" {
		t.Error("not nothing")
	}
}
