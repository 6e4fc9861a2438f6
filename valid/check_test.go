package valid

import (
	"slices"
	"strings"
	"testing"

	"bedrock/api"
)

// checked is Check and Where of a block, held against the model.
func checked(t *testing.T, what string, b api.Block, want api.Errno, place int) {
	t.Helper()
	if model := wantCheck(b); model != want {
		t.Errorf("%s: the model tells %d, not %d", what, model, want)
	}
	if e := Check(b); e != want {
		t.Errorf("Check of %s: %d, not %d", what, e, want)
	}
	if at := Where(b); at != place {
		t.Errorf("Where of %s: %d, not %d", what, at, place)
	}
}

// wrongs is a transaction with each fault of tx.Check, in the order of the rules there.
func wrongs(n int) []api.Tx {
	l := make([]api.Tx, 10)
	for i := range l {
		l[i] = spends([]api.Point{point(n), point(n + 50)}, 5, 6)
		l[i].Version = uint32(n)
	}
	l[0].Ins[1].Key = strings.Repeat("k", 521)
	l[1].Outs[1].Lock = strings.Repeat("l", 521)
	for range 9 {
		l[2].Outs = append(l[2].Outs, api.Out{Lock: strings.Repeat("l", 440)})
	}
	l[3].Ins = nil
	l[4].Outs = nil
	l[5].Outs[1].Value = 1000001
	l[6].Outs[0].Value, l[6].Outs[1].Value = 999999, 2
	l[7].Ins[1].Point = l[7].Ins[0].Point
	l[8].Ins[1].Point = null
	l[9].Ins[0].Point = null
	return l
}

// wrongErrors is what tx.Check tells of wrongs.
func wrongErrors() []api.Errno {
	return []api.Errno{
		api.ErrScript, api.ErrScript, api.ErrSize, api.ErrEmpty, api.ErrEmpty,
		api.ErrValue, api.ErrValue, api.ErrTwin, api.ErrNull, api.ErrNull,
	}
}

// Promise 16.1: blocks with nothing wrong, of one and of more transactions, whatever stands around them.
func TestCheckOfGood(t *testing.T) {
	for n := range 6 {
		txs := []api.Tx{base(7, 5, 6)}
		for i := range n {
			txs = append(txs, spends([]api.Point{point(i), point(i + 50)}, 5, 6))
		}
		checked(t, "a good block", sealed(api.Hash{1}, 9, txs...), api.OK, -1)
	}
	checked(t, "one with all that there may be", sealed(api.Hash{}, 0, base(7, 1000000), spends([]api.Point{point(1)}, 1000000)), api.OK, -1)
	for _, long := range []int{2, 100} {
		one := base(7, 5)
		one.Ins[0].Key = strings.Repeat("k", long)
		checked(t, "a coinbase with another key", sealed(api.Hash{}, 0, one), api.OK, -1)
	}
}

// Promise 16.1: MaxBlock bytes may be, one more may not, whatever else is wrong.
func TestCheckLong(t *testing.T) {
	of := func(n int) api.Block {
		txs := []api.Tx{base(7, 5)}
		for i := range 3 {
			txs = append(txs, spends([]api.Point{point(i)}, 5))
			for range 5 {
				txs[i+1].Outs = append(txs[i+1].Outs, api.Out{Lock: strings.Repeat("l", 500)})
			}
		}
		have := 81 + 9
		for _, x := range txs {
			have += len(txText(x))
		}
		txs[3].Outs = append(txs[3].Outs, api.Out{Lock: strings.Repeat("l", n-have)})
		return sealed(api.Hash{}, 0, txs...)
	}
	checked(t, "8191 bytes", of(8191), api.OK, -1)
	checked(t, "8192 bytes", of(8192), api.OK, -1)
	checked(t, "8193 bytes", of(8193), api.ErrLong, -1)
	b := of(8193)
	b.Header.Root[3]++
	b.Txs = append(b.Txs, b.Txs[0], api.Tx{})
	checked(t, "too long, with another root, two coinbases, an empty transaction", b, api.ErrLong, 5)
	b.Txs = slices.Repeat([]api.Tx{{}}, 9000)
	checked(t, "too long by many", b, api.ErrLong, 0)
}

// Promise 16.1: no transactions; another root; a mutated list; ahead of all faults behind them.
func TestCheckRoots(t *testing.T) {
	checked(t, "nothing", api.Block{}, api.ErrNoTxs, -1)
	checked(t, "nothing, with a root", sealed(api.Hash{1}, 2), api.ErrNoTxs, -1)
	none := sealed(api.Hash{1}, 2)
	none.Header.Root[0] = 1
	checked(t, "nothing, with another root", none, api.ErrNoTxs, -1)
	a, b, c := base(7, 5), spends([]api.Point{point(1)}, 5), spends([]api.Point{point(2)}, 5)
	for _, at := range []int{0, 15, 31} {
		x := sealed(api.Hash{}, 0, a, b, c)
		x.Header.Root[at] ^= 0x80
		checked(t, "another root", x, api.ErrRoots, -1)
	}
	for _, txs := range [][]api.Tx{{b, a, c}, {a, c, b}, {a, b}, {a}, {b, c}, {c, b, a}, {a, b, c, b}, {b, b}, {a, b, wrongs(1)[3]}} {
		x := sealed(api.Hash{}, 0, a, b, c)
		x.Txs = txs
		if at := Where(x); Check(x) != api.ErrRoots || wantCheck(x) != 161 {
			t.Error("Check of other transactions under a root", Check(x), at)
		}
	}
	three, longer := sealed(api.Hash{}, 0, a, b, c), sealed(api.Hash{}, 0, a, b, c, c)
	if three.Header != longer.Header {
		t.Fatal("another root")
	}
	checked(t, "a mutated list", longer, api.ErrMutated, -1)
	checked(t, "a mutated list from its beginning", sealed(api.Hash{}, 0, a, a), api.ErrMutated, -1)
	checked(t, "one that is mutated above", sealed(api.Hash{}, 0, a, b, a, b), api.ErrMutated, -1)
	checked(t, "a mutated one without a coinbase", sealed(api.Hash{}, 0, b, c, c, c), api.ErrMutated, -1)
	checked(t, "a mutated one with a fault", sealed(api.Hash{}, 0, a, b, api.Tx{}, api.Tx{}), api.ErrMutated, 2)
	checked(t, "one that stands twice, but not together", sealed(api.Hash{}, 0, a, b, b), api.OK, -1)
}

// Promise 16.1: the first one is a coinbase, and no other one, at each place.
func TestCheckBases(t *testing.T) {
	a, b, c := base(7, 5), spends([]api.Point{point(1)}, 5), spends([]api.Point{point(2)}, 5)
	checked(t, "no coinbase", sealed(api.Hash{}, 0, b, c), api.ErrFirst, -1)
	checked(t, "the coinbase last", sealed(api.Hash{}, 0, b, c, a), api.ErrFirst, -1)
	checked(t, "no coinbase, and two behind", sealed(api.Hash{}, 0, b, a, base(8, 5)), api.ErrFirst, -1)
	checked(t, "an empty one first", sealed(api.Hash{}, 0, api.Tx{}, a), api.ErrFirst, 0)
	checked(t, "another one behind", sealed(api.Hash{}, 0, a, base(8, 5)), api.ErrBases, -1)
	checked(t, "another one in the midst", sealed(api.Hash{}, 0, a, base(8, 5), b), api.ErrBases, -1)
	checked(t, "another one last", sealed(api.Hash{}, 0, a, b, c, base(7, 6)), api.ErrBases, -1)
	checked(t, "another one with a fault ahead", sealed(api.Hash{}, 0, a, api.Tx{}, base(7, 6)), api.ErrBases, 1)
	bad := base(7, 5)
	bad.Ins[0].Key = "k"
	checked(t, "another one behind a bad one", sealed(api.Hash{}, 0, bad, base(7, 6)), api.ErrBases, 0)
	two := spends([]api.Point{null, point(1)}, 5)
	checked(t, "one with a coinbase's input and another", sealed(api.Hash{}, 0, two, b), api.ErrFirst, 0)
	checked(t, "the same behind", sealed(api.Hash{}, 0, a, two), api.ErrNull, 1)
}

// Promise 16.1: each fault of tx.Check at each place, two of them at once at each two places: the first one is told, and where it is.
func TestCheckOfEach(t *testing.T) {
	errors := wrongErrors()
	for place := 1; place < 5; place++ {
		for i, x := range wrongs(10) {
			if i == 9 {
				continue // that is a coinbase and one more input
			}
			txs := []api.Tx{base(7, 5)}
			for n := 1; n < 5; n++ {
				txs = append(txs, spends([]api.Point{point(n)}, 5))
			}
			txs[place] = x
			checked(t, "a fault", sealed(api.Hash{}, 0, txs...), errors[i], place)
			for behind := place + 1; behind < 5; behind++ {
				for j, y := range wrongs(20) {
					if i == 2 && j == 2 {
						continue // two such ones are too long for a block
					}
					want := errors[i]
					if i < 3 && j < 3 && place == 2 && behind == 3 {
						want = api.ErrMutated // none of both has an id, and they stand together
					}
					both := slices.Clone(txs)
					both[behind] = y
					checked(t, "two faults", sealed(api.Hash{}, 0, both...), want, place)
				}
			}
		}
	}
	for i, x := range wrongs(30) {
		bad := base(7, 5)
		bad.Ins[0].Key = strings.Repeat("k", 101)
		checked(t, "a coinbase with a fault and another one", sealed(api.Hash{}, 0, bad, x), api.ErrBase, 0)
		bad.Outs = nil
		checked(t, "an empty coinbase and another one", sealed(api.Hash{}, 0, bad, x), api.ErrEmpty, 0)
		if at := Where(api.Block{Txs: []api.Tx{x, x}}); at != 0 {
			t.Error("Where of all wrong", i, at)
		}
	}
}

// Promise 16.1: Where asks for no block around the transactions.
func TestWhere(t *testing.T) {
	good, bad := spends([]api.Point{point(1)}, 5), api.Tx{}
	for _, x := range []struct {
		txs  []api.Tx
		want int
	}{
		{nil, -1}, {[]api.Tx{}, -1}, {[]api.Tx{good}, -1}, {[]api.Tx{good, good, good}, -1},
		{[]api.Tx{bad}, 0}, {[]api.Tx{bad, good, good}, 0}, {[]api.Tx{good, good, bad}, 2}, {[]api.Tx{good, bad, bad}, 1},
		{[]api.Tx{bad, bad}, 0}, {[]api.Tx{base(1, 5), base(2, 6), bad}, 2}, {slices.Repeat([]api.Tx{good}, 9000), -1},
		{append(slices.Repeat([]api.Tx{good}, 9000), bad), 9000},
	} {
		if got := Where(api.Block{Txs: x.txs}); got != x.want {
			t.Error("Where", got, "not", x.want)
		}
	}
}
