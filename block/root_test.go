package block

import (
	"math/rand"
	"testing"

	"bedrock/api"
	"bedrock/merkle"
)

// ids is the ids of transactions; of those that have none zeros.
func ids(txs ...api.Tx) []api.Hash {
	var list []api.Hash
	for _, t := range txs {
		id := api.Hash{}
		if wantTold(t) == api.OK {
			id = digest(wantTx(t))
		}
		list = append(list, id)
	}
	return list
}

// roots is Root, held against the model.
func roots(t *testing.T, name string, wantMutated bool, txs ...api.Tx) api.Hash {
	t.Helper()
	want, alike := wantRoot(ids(txs...)...)
	root, mutated := Root(txs...)
	if root != want || mutated != wantMutated || alike != wantMutated {
		t.Errorf("Root of %s: %x %v, not %x %v", name, root, mutated, want, wantMutated)
	}
	return root
}

// Promise 11.3: the root of none, of one, of several.
func TestRoot(t *testing.T) {
	if root := roots(t, "none", false); root != (api.Hash{}) {
		t.Errorf("Root of none: %x", root)
	}
	roots(t, "an empty list", false, []api.Tx{}...)
	a, b, c, d := plain(1, 1, 1), plain(2, 1, 1), plain(3, 0, 0), plain(4, 5, 5)
	if root := roots(t, "one", false, a); root != digest(wantTx(a)) {
		t.Errorf("Root of one: %x", root)
	}
	if roots(t, "two", false, a, b) == roots(t, "two, turned", false, b, a) {
		t.Error("the order does not matter")
	}
	roots(t, "three", false, a, b, c)
	roots(t, "four", false, a, b, c, d)
	roots(t, "nothing", false, api.Tx{})
	var many []api.Tx
	for n := range 40 {
		many = append(many, plain(n, n%3, n%4))
		roots(t, "many", false, many...)
	}
}

// Promise 11.3: lists that are mutated, at level 0 and above, and some that are not, though one stands twice.
func TestRootMutated(t *testing.T) {
	a, b, c, d, e, f := plain(1, 1, 1), plain(2, 1, 1), plain(3, 1, 1), plain(4, 1, 1), plain(5, 1, 1), plain(6, 1, 1)
	roots(t, "a a", true, a, a)
	roots(t, "a b c c", true, a, b, c, c)
	roots(t, "a a b c", true, a, a, b, c)
	roots(t, "a b a b", true, a, b, a, b)
	roots(t, "a b c d e f e f", true, a, b, c, d, e, f, e, f)
	roots(t, "a b b c", false, a, b, b, c)
	roots(t, "a b a", false, a, b, a)
	roots(t, "a b c a", false, a, b, c, a)
	roots(t, "a b b a", false, a, b, b, a)
	if first, second := roots(t, "a b c", false, a, b, c), roots(t, "a b c c", true, a, b, c, c); first != second {
		t.Error("a b c and a b c c have unlike roots")
	}
}

// Promise 11.3: a transaction without an id counts as zeros, so two of these that stand together are the same.
func TestRootWithoutID(t *testing.T) {
	a := plain(1, 1, 1)
	for _, bad := range []api.Tx{longScript(), longTx(), longBoth()} {
		if root := roots(t, "one without an id", false, bad); root != (api.Hash{}) {
			t.Errorf("Root of one without an id: %x", root)
		}
		roots(t, "the first without an id", false, bad, a)
		roots(t, "the last without an id", false, a, plain(2, 1, 1), bad)
	}
	roots(t, "two without ids", true, longScript(), longTx())
	roots(t, "two without ids, apart", false, a, longScript(), longTx())
	roots(t, "three, two of them without ids", false, longScript(), a, longTx())
}

// Promise 11.3: whole is a block with transactions, their root, and no mutated list.
func TestWhole(t *testing.T) {
	a, b, c := plain(1, 1, 1), plain(2, 1, 1), plain(3, 1, 1)
	whole := func(txs ...api.Tx) api.Block {
		x := api.Block{Header: head(), Txs: txs}
		x.Header.Root, _ = wantRoot(ids(txs...)...)
		return x
	}
	for _, x := range []struct {
		name string
		b    api.Block
		want bool
	}{
		{"one", whole(a), true},
		{"two", whole(a, b), true},
		{"three", whole(a, b, c), true},
		{"one twice, apart", whole(a, b, a), true},
		{"too many bytes", whole(sized(4000), sized(4001), sized(4002)), true},
		{"one without an id", whole(longScript()), true},
		{"none", whole(), false},
		{"nothing", api.Block{}, false},
		{"an empty list", api.Block{Txs: []api.Tx{}}, false},
		{"none, another root", api.Block{Header: head()}, false},
		{"one twice", whole(a, a), false},
		{"the last one twice", whole(a, b, c, c), false},
		{"two without ids", whole(longScript(), longTx()), false},
		{"zeros", api.Block{Txs: []api.Tx{a}}, false},
	} {
		if got := Whole(x.b); got != x.want {
			t.Errorf("Whole of %s: %v", x.name, got)
		}
		if !x.want {
			continue
		}
		for i := range 32 {
			other := x.b
			other.Header.Root[i] ^= 1 << (i % 8)
			if Whole(other) {
				t.Errorf("Whole of %s with another root", x.name)
			}
		}
		other := full(x.b)
		other.Txs[len(other.Txs)-1] = plain(9, 1, 1)
		if Whole(other) {
			t.Errorf("Whole of %s with another transaction", x.name)
		}
		other = x.b
		other.Header = api.Header{Root: x.b.Header.Root}
		if !Whole(other) {
			t.Errorf("%s: the other fields of the header matter", x.name)
		}
	}
}

// Promise 11.3: roots by lots, with transactions that stand several times, and longer lists with the same root.
func TestRootLots(t *testing.T) {
	lots := rand.New(rand.NewSource(117))
	several := []api.Tx{plain(1, 1, 1), plain(2, 0, 0), plain(3, 2, 1), longScript(), longTx()}
	mutated := 0
	for range 2000 {
		var txs []api.Tx
		for range lots.Intn(12) {
			txs = append(txs, several[lots.Intn(len(several))])
		}
		_, want := wantRoot(ids(txs...)...)
		root := roots(t, "lots", want, txs...)
		if want {
			mutated++
		}
		if longer := merkle.Odd(ids(txs...)); len(longer) > len(txs) {
			if same, twice := merkle.Root(longer); same != root || !twice {
				t.Fatal("a longer list has another root")
			}
		}
		b := api.Block{Header: api.Header{Root: root}, Txs: txs}
		if Whole(b) != (len(txs) > 0 && !want) {
			t.Fatalf("Whole of %d: %v", len(txs), Whole(b))
		}
	}
	if mutated < 200 || mutated > 1900 {
		t.Errorf("%d of 2000 are mutated", mutated)
	}
}
