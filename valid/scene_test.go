package valid

import (
	"slices"
	"strconv"
	"strings"

	"bedrock/api"
)

// The block of a scene is of sceneHeight, at which 2500 are made.
const (
	sceneHeight = 101
	sceneTime   = 1600000100
	sceneTxs    = 5
)

// scene is a set and a block that may be connected to it, just so: two inputs of each transaction, of which the first one spends a coinbase that is just old enough, by keys that just fit.
type scene struct {
	m      model
	height int
	prev   api.Hash
	txs    []api.Tx
}

// keyOf opens the lock of an input of a scene, and no other one.
func keyOf(place, input int) string { return "key" + strconv.Itoa(10*place+input) }

// lockOf is a lock that a key opens, of n bytes.
func lockOf(key string, n int) string {
	d := digest(key)
	return string(d[:n])
}

func newScene() *scene {
	s := &scene{m: model{tip: api.Hash{7: 7}, height: sceneHeight - 1}, height: sceneHeight, prev: api.Hash{7: 7}}
	s.txs = []api.Tx{base(sceneHeight, 2500, 5*(sceneTxs-1))} // each of the others pays a fee of 5
	for place := 1; place < sceneTxs; place++ {
		for input := range 2 {
			coin := plain(10, sceneHeight-4)
			coin.Coinbase = input == 0
			coin.Out.Lock = lockOf(keyOf(place, input), []int{32, 1, 20, 31, 4}[place])
			s.m = s.m.with(point(10*place+input), coin)
		}
		x := spends([]api.Point{point(10 * place), point(10*place + 1)}, 8, 7)
		for input := range x.Ins {
			x.Ins[input].Key = keyOf(place, input)
		}
		s.txs = append(s.txs, x)
	}
	return s
}

// rot is one fault of a scene. Of two the one of the lower rank is told. Those of a later phase see what those ahead did.
type rot struct {
	name  string
	phase int
	rank  int
	place int
	want  api.Errno
	spoil func(s *scene)
	after func(b *api.Block)
}

// The phases: transactions and coins are changed; what hangs on all else of a transaction; what hangs on their ids.
const (
	changing = iota
	replacing
	adding
)

// blockRots is the faults of a whole block.
func blockRots() []rot {
	return []rot{
		{name: "another one ahead", rank: 1, want: api.ErrTip, spoil: func(s *scene) { s.prev[31]++ }},
		{name: "a height above", rank: 2, want: api.ErrTip, spoil: func(s *scene) { s.height++ }},
		{name: "a height below", rank: 3, want: api.ErrTip, spoil: func(s *scene) { s.height -= 3 }},
		{name: "too long", rank: 10, want: api.ErrLong, spoil: func(s *scene) {
			for i := range s.txs {
				s.txs[i].Outs = append(s.txs[i].Outs, slices.Repeat([]api.Out{{Lock: strings.Repeat("l", 500)}}, 4)...)
			}
		}},
		{name: "no transactions", phase: adding, rank: 11, want: api.ErrNoTxs, spoil: func(s *scene) { s.txs = nil }},
		{name: "another root", rank: 12, want: api.ErrRoots, after: func(b *api.Block) { b.Header.Root[0]++ }},
		{name: "a mutated list", phase: adding, rank: 13, want: api.ErrMutated, spoil: func(s *scene) {
			s.txs = append(s.txs, s.txs[max(0, len(s.txs)-1):]...)
		}},
		{name: "no coinbase", rank: 14, want: api.ErrFirst, spoil: func(s *scene) { s.txs[0].Ins[0].Point.Index-- }},
		{name: "another height in the coinbase", rank: 100, want: api.ErrHeight, spoil: func(s *scene) { s.txs[0].Ins[0].Key = four(102) }},
		{name: "too short a key for a height", rank: 100, want: api.ErrHeight, spoil: func(s *scene) { s.txs[0].Ins[0].Key = "\x65\x00\x00" }},
		{name: "too much for the coinbase", rank: 2000, want: api.ErrPaid, spoil: func(s *scene) { s.txs[0].Outs[1].Value++ }},
	}
}

// checkRots is the faults of tx.Check of the transaction at a place.
func checkRots(place int) []rot {
	return []rot{
		{name: "no outputs", phase: replacing, rank: 50 + place, want: api.ErrEmpty, spoil: func(s *scene) { s.txs[place].Outs = nil }},
		{name: "too much", rank: 50 + place, want: api.ErrValue, spoil: func(s *scene) { s.txs[place].Outs[1].Value = 1000000 }},
		{name: "a twin", phase: replacing, rank: 50 + place, want: api.ErrTwin, spoil: func(s *scene) {
			s.txs[place].Ins = append(s.txs[place].Ins, s.txs[place].Ins[0])
		}},
	}
}

// placeRots is the faults of the transaction at a place, 0 with them, that are told by its place.
func placeRots(place int) []rot {
	rank := 200 + 20*place
	return []rot{
		{name: "not final", rank: rank, place: place, want: api.ErrFinal, spoil: func(s *scene) {
			s.txs[place].Time, s.txs[place].Ins[0].Sequence = sceneHeight, 4294967294
		}},
		{name: "one of its outputs is there", phase: adding, rank: rank + 1, place: place, want: api.ErrAgain, spoil: func(s *scene) {
			if place < len(s.txs) {
				s.m = s.m.with(api.Point{Tx: txID(s.txs[place]), Index: 1000 + uint32(place)}, plain(3, 2))
			}
		}},
	}
}

// inputRots is the faults of an input of the transaction at a place.
func inputRots(place, input int) []rot {
	rank, at := 205+20*place+3*input, point(10*place+input)
	change := func(s *scene, f func(c *api.Coin)) {
		coin := s.m.spots[s.m.find(at)].coin
		f(&coin)
		s.m = s.m.with(at, coin)
	}
	return []rot{
		{name: "another place", rank: rank, place: place, want: api.ErrSpent, spoil: func(s *scene) { s.txs[place].Ins[input].Point.Index++ }},
		{name: "another id", rank: rank, place: place, want: api.ErrSpent, spoil: func(s *scene) { s.txs[place].Ins[input].Point.Tx[31] ^= 9 }},
		{name: "too young", rank: rank + 1, place: place, want: api.ErrYoung, spoil: func(s *scene) {
			change(s, func(c *api.Coin) { c.Coinbase, c.Height = true, sceneHeight-3 })
		}},
		{name: "another key", rank: rank + 2, place: place, want: api.ErrLocked, spoil: func(s *scene) { s.txs[place].Ins[input].Key += "x" }},
	}
}

// otherRots is the faults that only other transactions than the coinbase have.
func otherRots(place int) []rot {
	return []rot{
		{name: "another coinbase", phase: replacing, rank: 15, want: api.ErrBases, spoil: func(s *scene) {
			s.txs[place].Ins = []api.In{{Point: null, Key: four(uint32(place))}}
		}},
		{name: "pays more than it has", rank: 215 + 20*place, place: place, want: api.ErrFunds, spoil: func(s *scene) { s.txs[place].Outs[0].Value = 14 }},
	}
}

// rots is all faults of a scene.
func rots() []rot {
	l := blockRots()
	for place := range sceneTxs {
		l = append(l, placeRots(place)...)
		if place > 0 {
			l = append(l, checkRots(place)...)
			l = append(l, otherRots(place)...)
			l = append(l, inputRots(place, 0)...)
			l = append(l, inputRots(place, 1)...)
		}
	}
	return l
}

// spoiled is the set and the block of a scene with some faults.
func spoiled(faults ...rot) (model, api.Block, int) {
	s := newScene()
	for phase := changing; phase <= adding; phase++ {
		for _, f := range faults {
			if f.phase == phase && f.spoil != nil {
				f.spoil(s)
			}
		}
	}
	b := sealed(s.prev, sceneTime, s.txs...)
	for _, f := range faults {
		if f.after != nil {
			f.after(&b)
		}
	}
	return s.m, b, s.height
}
