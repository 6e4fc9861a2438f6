package sip

import (
	"math/rand"
	"testing"

	"bedrock/api"
)

// checkSip holds all that a hasher tells against the text that was written to it.
func checkSip(t *testing.T, h *Sip, k api.Keys, s string) {
	t.Helper()
	if h == nil {
		t.Fatal("no hasher")
	}
	if got := h.Len(); got != len(s) {
		t.Fatalf("%d bytes: Len %d", len(s), got)
	}
	if got, want := h.Sum(), wantHash(k, s); got != want {
		t.Fatalf("%d bytes: Sum %016x, not %016x", len(s), got, want)
	}
}

// Promise 3.3: a new hasher has no bytes, and has its own keys.
func TestNew(t *testing.T) {
	for _, k := range []api.Keys{{}, keysOfBytes(), {K0: 5}, {K1: 5}} {
		h := New(k)
		checkSip(t, h, k, "")
		h.Write("")
		checkSip(t, h, k, "")
		h.Write("abc")
		checkSip(t, h, k, "abc")
		checkSip(t, New(k), k, "")
	}
}

// Promises 3.3 and 3.4: texts of all lengths about the edges, cut in two at every place, with all asked for between the parts and none of it.
func TestCutAtEveryPlace(t *testing.T) {
	lots := rand.New(rand.NewSource(4))
	for _, n := range []int{0, 1, 7, 8, 9, 15, 16, 17, 31, 32, 33, 100, 255, 256, 257, 300, 512} {
		k, s := someKeys(lots), someText(lots, n)
		for cut := range n + 1 {
			quiet, asked := New(k), New(k)
			quiet.Write(s[:cut])
			asked.Write(s[:cut])
			checkSip(t, asked, k, s[:cut])
			quiet.Write(s[cut:])
			asked.Write(s[cut:])
			checkSip(t, quiet, k, s)
			checkSip(t, asked, k, s)
			checkSip(t, asked, k, s)
			if quiet.Sum() != Hash(k, s) {
				t.Fatalf("%d bytes cut at %d: not as at once", n, cut)
			}
		}
	}
}

// Promise 3.4: cut into three at all places.
func TestCutTwice(t *testing.T) {
	for _, n := range []int{7, 8, 9, 16, 25, 40} {
		s := bytesFrom0(n)
		for first := range n + 1 {
			for second := first; second <= n; second++ {
				h := New(keysOfBytes())
				h.Write(s[:first])
				h.Write(s[first:second])
				h.Write(s[second:])
				if got, want := h.Sum(), publishedSums()[n]; got != want || h.Len() != n {
					t.Fatalf("%d bytes cut at %d and %d: %016x, not %016x", n, first, second, got, want)
				}
			}
		}
	}
}

// Promise 3.4: in parts of any length, and byte by byte, as at once.
func TestManyParts(t *testing.T) {
	lots := rand.New(rand.NewSource(5))
	for range 300 {
		k, s := someKeys(lots), someText(lots, lots.Intn(1500))
		most := []int{1, 2, 7, 8, 9, 17, 130, 1000}[lots.Intn(8)]
		h := New(k)
		for at := 0; at < len(s); {
			next := min(len(s), at+lots.Intn(most+1))
			h.Write(s[at:next])
			at = next
			if lots.Intn(4) == 0 {
				checkSip(t, h, k, s[:at])
			}
		}
		checkSip(t, h, k, s)
	}
	k, s := someKeys(lots), someText(lots, 600)
	h := New(k)
	for i := range len(s) {
		h.Write(s[i : i+1])
		checkSip(t, h, k, s[:i+1])
	}
}

// Promise 3.3: a clone is the same, and goes its own way, whichever of the two is written to first.
func TestClone(t *testing.T) {
	lots := rand.New(rand.NewSource(6))
	for _, n := range edges() {
		k, s, first, second := someKeys(lots), someText(lots, n), someText(lots, lots.Intn(30)), someText(lots, lots.Intn(30))
		h := New(k)
		h.Write(s)
		clone := h.Clone()
		if clone == h {
			t.Fatal("the clone is the hasher itself")
		}
		checkSip(t, clone, k, s)
		clone.Write(first)
		checkSip(t, h, k, s)
		checkSip(t, clone, k, s+first)
		h.Write(second)
		checkSip(t, h, k, s+second)
		checkSip(t, clone, k, s+first)
		again := clone.Clone()
		clone.Write(second)
		h.Write(first)
		checkSip(t, again, k, s+first)
		checkSip(t, clone, k, s+first+second)
		checkSip(t, h, k, s+second+first)
	}
}

// Promise 3.3: hashers have nothing to do with one another.
func TestSideBySide(t *testing.T) {
	lots := rand.New(rand.NewSource(7))
	keys, texts, all := make([]api.Keys, 5), make([]string, 5), make([]*Sip, 5)
	for i := range all {
		keys[i] = someKeys(lots)
		all[i] = New(keys[i])
	}
	for range 200 {
		i, part := lots.Intn(len(all)), someText(lots, lots.Intn(20))
		all[i].Write(part)
		texts[i] += part
		for j := range all {
			checkSip(t, all[j], keys[j], texts[j])
		}
	}
}

// Promise 3.3: a nil hasher takes nothing and tells noughts.
func TestNilSip(t *testing.T) {
	var h *Sip
	for _, s := range []string{"", "a", bytesFrom0(300)} {
		h.Write(s)
		if sum, long, clone := h.Sum(), h.Len(), h.Clone(); sum != 0 || long != 0 || clone != nil {
			t.Errorf("%016x %d %v", sum, long, clone)
		}
	}
}
