package sha

import (
	"math/rand"
	"testing"

	"bedrock/api"
)

// wantState is the state behind the whole blocks of a text, and what is left of it.
func wantState(s string) (api.State, string) {
	x := First()
	for len(s) >= 64 {
		x = Step(x, [64]byte([]byte(s[:64])))
		s = s[64:]
	}
	return x, s
}

// checkHasher holds all that a hasher tells against the text that was written to it.
func checkHasher(t *testing.T, h *Hasher, s string) {
	t.Helper()
	if h == nil {
		t.Fatal("no hasher")
	}
	if got := h.Len(); got != uint64(len(s)) {
		t.Fatalf("%d bytes: Len %d", len(s), got)
	}
	if got := h.Sum(); got != wantSum(s) {
		t.Fatalf("%d bytes: Sum %x, not %x", len(s), got, wantSum(s))
	}
	x, left := h.State()
	if wantX, wantLeft := wantState(s); x != wantX || left != wantLeft {
		t.Fatalf("%d bytes: State %08x %x, not %08x %x", len(s), x, left, wantX, wantLeft)
	}
}

// Promise 2.2: a new hasher has no bytes.
func TestNew(t *testing.T) {
	h := New()
	checkHasher(t, h, "")
	h.Write("")
	checkHasher(t, h, "")
	h.Write("abc")
	checkHasher(t, h, "abc")
	checkHasher(t, New(), "")
}

// Promises 2.2 and 2.6: texts of all lengths about the edges, cut in two at every place, with all asked for between the parts and none of it.
func TestCutAtEveryPlace(t *testing.T) {
	lots := rand.New(rand.NewSource(4))
	for _, n := range []int{0, 1, 55, 56, 63, 64, 65, 119, 120, 127, 128, 129, 200, 321} {
		s := someText(lots, n)
		for cut := range n + 1 {
			quiet, asked := New(), New()
			quiet.Write(s[:cut])
			asked.Write(s[:cut])
			checkHasher(t, asked, s[:cut])
			quiet.Write(s[cut:])
			asked.Write(s[cut:])
			checkHasher(t, quiet, s)
			checkHasher(t, asked, s)
			checkHasher(t, asked, s)
		}
	}
}

// Promise 2.6: in parts of any length, and byte by byte, as at once.
func TestManyParts(t *testing.T) {
	lots := rand.New(rand.NewSource(5))
	for range 300 {
		s := someText(lots, lots.Intn(1500))
		most := []int{1, 2, 7, 63, 64, 65, 130, 1000}[lots.Intn(8)]
		h := New()
		for at := 0; at < len(s); {
			next := min(len(s), at+lots.Intn(most+1))
			h.Write(s[at:next])
			at = next
			if lots.Intn(4) == 0 {
				checkHasher(t, h, s[:at])
			}
		}
		checkHasher(t, h, s)
	}
	h := New()
	s := someText(lots, 300)
	for i := range len(s) {
		h.Write(s[i : i+1])
		checkHasher(t, h, s[:i+1])
	}
}

// Promise 2.2: a clone is the same, and goes its own way, whichever of the two is written to first.
func TestClone(t *testing.T) {
	lots := rand.New(rand.NewSource(6))
	for _, n := range edges() {
		s, first, second := someText(lots, n), someText(lots, lots.Intn(150)), someText(lots, lots.Intn(150))
		h := New()
		h.Write(s)
		clone := h.Clone()
		if clone == h {
			t.Fatal("the clone is the hasher itself")
		}
		checkHasher(t, clone, s)
		clone.Write(first)
		checkHasher(t, h, s)
		checkHasher(t, clone, s+first)
		h.Write(second)
		checkHasher(t, h, s+second)
		checkHasher(t, clone, s+first)
		again := clone.Clone()
		clone.Write(second)
		h.Write(first)
		checkHasher(t, again, s+first)
		checkHasher(t, clone, s+first+second)
		checkHasher(t, h, s+second+first)
	}
}

// Promise 2.2: hashers have nothing to do with one another.
func TestTwoHashers(t *testing.T) {
	a, b := New(), New()
	a.Write("left")
	b.Write("right")
	checkHasher(t, a, "left")
	checkHasher(t, b, "right")
}

// Promise 2.5: a nil hasher is as one without bytes; it takes none, and has no clone.
func TestNilHasher(t *testing.T) {
	var h *Hasher
	check := func() {
		if h.Len() != 0 {
			t.Errorf("Len %d", h.Len())
		}
		if got := h.Sum(); got != wantSum("") {
			t.Errorf("Sum %x", got)
		}
		if x, left := h.State(); x != First() || left != "" {
			t.Errorf("State %08x %x", x, left)
		}
		if h.Clone() != nil {
			t.Error("a nil hasher has a clone")
		}
	}
	check()
	h.Write("abc")
	h.Write("")
	h.Write(someText(rand.New(rand.NewSource(7)), 200))
	check()
}
