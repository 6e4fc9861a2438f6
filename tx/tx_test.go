package tx

import (
	"math/rand"
	"slices"
	"strings"
	"testing"

	"bedrock/api"
)

// Promise 10.2: the id is the digest of the bytes; what may not be told has none.
func TestID(t *testing.T) {
	for i, x := range shapes() {
		if id, e := ID(x); id != digest(wantBytes(x)) || e != api.OK {
			t.Errorf("ID of shape %d: %x %d", i, id, e)
		}
	}
	long := plain(1, 1)
	long.Outs[0].Lock = strings.Repeat("l", 521)
	both := sized(4200)
	both.Ins[0].Key = strings.Repeat("k", 521)
	for _, x := range []struct {
		t    api.Tx
		want api.Errno
	}{{long, api.ErrScript}, {sized(4097), api.ErrSize}, {both, api.ErrScript}} {
		if id, e := ID(x.t); id != (api.Hash{}) || e != x.want {
			t.Errorf("ID: %x %d, not %d", id, e, x.want)
		}
	}
}

// Promise 10.2: a coinbase has one input, of the whole point that no output has; all else does not matter.
func TestBase(t *testing.T) {
	with := func(points ...api.Point) api.Tx {
		x := plain(0, 1)
		for _, p := range points {
			x.Ins = append(x.Ins, api.In{Point: p})
		}
		return x
	}
	odd := func(i int) api.Point {
		p := null
		p.Tx[i] = 1
		return p
	}
	for _, x := range []struct {
		t    api.Tx
		want bool
	}{
		{with(null), true},
		{with(), false},
		{with(null, null), false},
		{with(null, point(1)), false},
		{with(point(1), null), false},
		{with(api.Point{}), false},
		{with(api.Point{Index: 4294967294}), false},
		{with(odd(0)), false},
		{with(odd(31)), false},
		{with(api.Point{Tx: api.Hash{7: 7}, Index: 4294967295}), false},
		{api.Tx{Ins: []api.In{{Point: null, Key: strings.Repeat("k", 600), Sequence: 9}}}, true},
		{api.Tx{}, false},
	} {
		if got := Base(x.t); got != x.want {
			t.Errorf("Base of %v: %v", Points(x.t), got)
		}
	}
}

// Promise 10.2: the points of the inputs and of the outputs, in order.
func TestPoints(t *testing.T) {
	a, b := point(7), point(3)
	id := api.Hash{5: 5}
	x := api.Tx{Ins: []api.In{{Point: a}, {Point: null}, {Point: b}, {Point: a}}, Outs: make([]api.Out, 3)}
	if got := Points(x); !slices.Equal(got, []api.Point{a, null, b, a}) {
		t.Errorf("Points: %v", got)
	}
	if got := Pairs(id, x); !slices.Equal(got, []api.Point{{Tx: id}, {Tx: id, Index: 1}, {Tx: id, Index: 2}}) {
		t.Errorf("Pairs: %v", got)
	}
	for _, none := range []api.Tx{{}, {Ins: []api.In{}, Outs: []api.Out{}}} {
		if len(Points(none)) != 0 || len(Pairs(id, none)) != 0 {
			t.Error("points of nothing")
		}
	}
	many := plain(300, 300)
	for i, p := range Pairs(id, many) {
		if p != (api.Point{Tx: id, Index: uint32(i)}) || Points(many)[i] != many.Ins[i].Point {
			t.Fatalf("point %d of many", i)
		}
	}
	if len(Pairs(id, many)) != 300 || len(Points(many)) != 300 {
		t.Error("many points")
	}
}

// Rule R4: the points that are handed out are new memory, spare room too.
func TestPointsMemory(t *testing.T) {
	x := plain(3, 3)
	for _, points := range []func() []api.Point{
		func() []api.Point { return Points(x) },
		func() []api.Point { return Pairs(api.Hash{1}, x) },
	} {
		first, second := points(), points()
		want := slices.Clone(second)
		clear(first[:cap(first)])
		if !slices.Equal(second, want) || !slices.Equal(points(), want) || !wantSame(x, plain(3, 3)) {
			t.Error("two answers share memory")
		}
	}
}

// Promise 10.2: points stand by their ids' bytes from the first on, then by their places.
func TestLess(t *testing.T) {
	first := func(b byte, n uint32) api.Point { return api.Point{Tx: api.Hash{0: b}, Index: n} }
	last := func(b byte, n uint32) api.Point { return api.Point{Tx: api.Hash{31: b}, Index: n} }
	rising := []api.Point{
		last(0, 0), last(0, 1), last(0, 255), last(0, 256), last(0, 1<<24), last(0, 1<<31), last(0, 4294967295),
		last(1, 0), last(1, 9), last(127, 5), last(128, 4), last(255, 0), last(255, 4294967295),
		{Tx: api.Hash{16: 1}}, {Tx: api.Hash{1: 1}}, {Tx: api.Hash{1: 255, 31: 1}},
		first(1, 0), first(1, 7), {Tx: api.Hash{0: 1, 31: 1}}, first(2, 0), first(127, 3), first(128, 2), first(255, 1),
		{Tx: api.Hash{0: 255, 31: 255}},
	}
	for i, a := range rising {
		for j, b := range rising {
			if got := Less(a, b); got != (i < j) {
				t.Errorf("Less(%x, %x): %v", a, b, got)
			}
		}
	}
}

// Promise 10.2: points by lots are in order as their bytes with the place's highest byte first.
func TestLessLots(t *testing.T) {
	lots := rand.New(rand.NewSource(104))
	lot := func() api.Point {
		var p api.Point
		p.Tx[lots.Intn(32)] = byte(lots.Intn(3))
		p.Index = uint32(lots.Intn(3)) << (8 * lots.Intn(4))
		return p
	}
	text := func(p api.Point) string {
		n := p.Index
		return string(p.Tx[:]) + string([]byte{byte(n >> 24), byte(n >> 16), byte(n >> 8), byte(n)})
	}
	for range 20000 {
		a, b := lot(), lot()
		if got := Less(a, b); got != (text(a) < text(b)) {
			t.Fatalf("Less(%x, %x): %v", a, b, got)
		}
	}
}

// others is transactions that are unlike x in one field alone, each with the field's name; x has two inputs and two outputs.
func others(x api.Tx) map[string]api.Tx {
	all := map[string]api.Tx{}
	add := func(name string, change func(t *api.Tx)) {
		t := api.Tx{Version: x.Version, Ins: slices.Clone(x.Ins), Outs: slices.Clone(x.Outs), Time: x.Time}
		change(&t)
		all[name] = t
	}
	add("Version", func(t *api.Tx) { t.Version++ })
	add("Version, high", func(t *api.Tx) { t.Version ^= 1 << 31 })
	add("Time", func(t *api.Tx) { t.Time++ })
	add("Time, high", func(t *api.Tx) { t.Time ^= 1 << 31 })
	for i, at := range []string{"first", "second"} {
		add(at+" id, first byte", func(t *api.Tx) { t.Ins[i].Point.Tx[0]++ })
		add(at+" id, last byte", func(t *api.Tx) { t.Ins[i].Point.Tx[31]++ })
		add(at+" place", func(t *api.Tx) { t.Ins[i].Point.Index++ })
		add(at+" key", func(t *api.Tx) { t.Ins[i].Key = "K" })
		add(at+" key, longer", func(t *api.Tx) { t.Ins[i].Key += "\x00" })
		add(at+" key, none", func(t *api.Tx) { t.Ins[i].Key = "" })
		add(at+" sequence", func(t *api.Tx) { t.Ins[i].Sequence++ })
		add(at+" value", func(t *api.Tx) { t.Outs[i].Value++ })
		add(at+" value, high", func(t *api.Tx) { t.Outs[i].Value ^= 1 << 63 })
		add(at+" lock", func(t *api.Tx) { t.Outs[i].Lock = "L" })
		add(at+" lock, longer", func(t *api.Tx) { t.Outs[i].Lock += "\x00" })
		add(at+" lock, none", func(t *api.Tx) { t.Outs[i].Lock = "" })
	}
	add("inputs, none", func(t *api.Tx) { t.Ins = nil })
	add("inputs, one", func(t *api.Tx) { t.Ins = t.Ins[:1] })
	add("inputs, three", func(t *api.Tx) { t.Ins = append(t.Ins, api.In{}) })
	add("inputs, turned", func(t *api.Tx) { slices.Reverse(t.Ins) })
	add("outputs, none", func(t *api.Tx) { t.Outs = nil })
	add("outputs, one", func(t *api.Tx) { t.Outs = t.Outs[:1] })
	add("outputs, three", func(t *api.Tx) { t.Outs = append(t.Outs, api.Out{}) })
	add("outputs, turned", func(t *api.Tx) { slices.Reverse(t.Outs) })
	return all
}

// Promises 10.2 and 10.5: two that are unlike in one field are not the same, and have other bytes and ids.
func TestSame(t *testing.T) {
	x := plain(2, 2)
	x.Outs[1].Value = 2
	again := api.Tx{Version: x.Version, Ins: slices.Clone(x.Ins), Outs: slices.Clone(x.Outs), Time: x.Time}
	if !Same(x, x) || !Same(x, again) || !Same(again, x) {
		t.Error("a transaction is not the same as itself")
	}
	raw, _ := Encode(x)
	id, _ := ID(x)
	for name, other := range others(x) {
		if Same(x, other) || Same(other, x) {
			t.Errorf("%s: the same", name)
		}
		if s, e := Encode(other); s == raw || e != api.OK {
			t.Errorf("%s: the same bytes, or %d", name, e)
		}
		if other, e := ID(other); other == id || e != api.OK {
			t.Errorf("%s: the same id, or %d", name, e)
		}
	}
}

// Promise 10.2 and rule R3: an empty list is the same as none, but not as a list with something that is all zero.
func TestSameEmpty(t *testing.T) {
	bare := []api.Tx{{}, {Ins: []api.In{}}, {Outs: []api.Out{}}, {Ins: make([]api.In, 0, 5), Outs: []api.Out{}}}
	for _, a := range bare {
		for _, b := range bare {
			if !Same(a, b) {
				t.Error("an empty list is another one than none")
			}
		}
		for _, b := range []api.Tx{{Ins: []api.In{{}}}, {Outs: []api.Out{{}}}, {Version: 1}, {Time: 1}} {
			if Same(a, b) || Same(b, a) {
				t.Error("nothing is the same as something")
			}
		}
	}
	a, b := plain(2, 0), plain(0, 2)
	empty := a
	empty.Outs = []api.Out{}
	if !Same(a, empty) || Same(a, b) {
		t.Error("one list is empty")
	}
	empty = b
	empty.Ins = []api.In{}
	if !Same(b, empty) {
		t.Error("no inputs")
	}
}
