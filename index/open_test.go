package index

import (
	"fmt"
	"math"
	"slices"
	"strings"
	"testing"

	"bedrock/api"
	"bedrock/disk"
	"bedrock/journal"
)

// Promise 13.2: the errors of journal.Open, nothing changed by them.
func TestOpenErrors(t *testing.T) {
	refuses(t, nil, "i", api.ErrArg)
	refuses(t, nil, "", api.ErrArg)
	d, _ := began(t, first())
	was := lookAt(t, d)
	for _, name := range []string{"", "I", "a b", strings.Repeat("n", 29)} {
		refuses(t, d, name, api.ErrName)
	}
	checkLook(t, d, was)
	if x, n, e := Open(d, strings.Repeat("n", 28)); x == nil || n != 0 || e != api.OK {
		t.Fatal("a name of 28 bytes", n, e)
	}
	d.Crash(0, 0)
	refuses(t, d, "i", api.ErrDead)
	refuses(t, d, "I", api.ErrName)
	d = disk.New()
	answers(t, d.Write("i", 0, strings.Repeat("\x00", 20)), api.OK)
	was = lookAt(t, d)
	refuses(t, d, "i", api.ErrHead)
	checkLook(t, d, was)
	d = disk.New()
	for i := range 64 {
		answers(t, d.Write(fmt.Sprint("other-", i), 0, ""), api.OK)
	}
	refuses(t, d, "i", api.ErrFull)
}

// Promise 13.2: a journal that is not there yet, one without records, one with a torn tail.
func TestOpenNone(t *testing.T) {
	d := disk.New()
	checkTells(t, opens(t, d, 0), nil, 0, 0)
	checkFile(t, d, 0, true)
	checkTells(t, opens(t, d, 0), nil, 0, 0)
	d = holding(t, 5)
	was := lookAt(t, d)
	checkTells(t, opens(t, d, 0), nil, 0, 0)
	checkLook(t, d, was)
	l := row(3)
	d = holding(t, 5, texts(l)...)
	answers(t, d.Cut("i", 20+3*113-1), api.OK)
	checkTells(t, opens(t, d, 2), l[:2], 2, 0)
	checkFile(t, d, 5, true, texts(l[:2])...)
}

// Promise 13.2: records that are all entries change nothing on the disk; of each id the last one counts, in the order in which ids came first.
func TestOpenGood(t *testing.T) {
	l := row(5)
	fork, other := on(l[1], 900), alone(1)
	for _, records := range [][]api.Entry{
		l[:1], l, {l[0], l[0]}, {l[0], with(l[0], 1)},
		{l[0], l[1], l[2], with(l[1], 4), with(l[0], 15), l[3], with(l[1], 2), l[1]},
		{other, l[0], alone(2), on(other, 5), l[1], with(other, 8)},
		{l[0], l[1], fork, l[2], on(fork, 1), l[3], with(fork, 3)},
	} {
		d := holding(t, 3, texts(records)...)
		was := lookAt(t, d)
		for range 2 {
			checkTells(t, opens(t, d, len(records)), played(records), len(records), 0)
			checkLook(t, d, was)
		}
	}
}

// wrongs is records that may not stand at a place of a row of entries, each of them of an id that is new there.
func wrongs(l []api.Entry, place int) map[string]string {
	x := l[place]
	out := map[string]string{
		"empty":      "",
		"cut":        wantBytes(x)[:96],
		"more":       wantBytes(x) + "\x00",
		"state":      wantBytes(with(x, 16)),
		"too tall":   wantBytes(tall(x, 20001)),
		"no height":  wantBytes(tall(x, -1)),
		"long":       wantBytes(api.Entry{Header: x.Header, Height: x.Height, Long: 1 << 31}),
		"of nothing": wantBytes(on(alone(77), 1)),
		"of zeros":   wantBytes(api.Entry{Header: api.Header{Nonce: 78}, Height: 1}),
	}
	for i := range place { // one that stands on an entry that is there, but with another height
		for height := range place + 3 {
			if height != 0 && height != i+1 {
				out[fmt.Sprint("on ", i, " with ", height)] = wantBytes(tall(on(l[i], 500), height))
			}
		}
		out[fmt.Sprint("on ", i, " with the most")] = wantBytes(tall(on(l[i], 500), 20000))
	}
	for i := place + 1; i < len(l); i++ { // one that stands on an entry that comes later
		out[fmt.Sprint("ahead of ", i)] = wantBytes(on(l[i], 500))
	}
	return out
}

// Promise 13.2: at each place a record that may not stand there: those ahead of it stay, it and all others are cut away, and that is sure; then opened again.
func TestOpenWrong(t *testing.T) {
	l := row(5)
	for place := range l {
		for name, wrong := range wrongs(l, place) {
			for _, behind := range [][]api.Entry{nil, l[place:], {l[0]}} {
				d := holding(t, 2, slices.Concat(texts(l[:place]), []string{wrong}, texts(behind))...)
				x, n, e := Open(d, "i")
				if n != place || e != api.OK {
					t.Fatalf("%s at %d: %d, %d", name, place, n, e)
				}
				checkTells(t, x, l[:place], place, 0)
				checkFile(t, d, 2, true, texts(l[:place])...)
				was := lookAt(t, d)
				checkTells(t, opens(t, d, place), l[:place], place, 0)
				checkLook(t, d, was)
				puts(t, x, l[place:]...)
				checkTells(t, x, l, 5, 5-place)
				checkFile(t, d, 2, false, texts(l)...)
			}
		}
	}
}

// Promise 13.2: an entry that is missing from a row takes all behind it away.
func TestOpenMissing(t *testing.T) {
	l := row(6)
	for place := 1; place < 5; place++ {
		d := holding(t, 0, texts(slices.Delete(slices.Clone(l), place, place+1))...)
		checkTells(t, opens(t, d, place), l[:place], place, 0)
		checkFile(t, d, 0, true, texts(l[:place])...)
	}
	d := holding(t, 0, texts(l[1:])...)
	checkTells(t, opens(t, d, 0), nil, 0, 0)
	checkFile(t, d, 0, true)
}

// Promise 13.2: a record of an id that is there is asked neither for its Prev nor for its height; others are held against the height that is told last.
func TestOpenAgainWithAnotherHeight(t *testing.T) {
	l := row(3)
	records := []api.Entry{l[0], l[1], tall(l[1], 7), tall(l[2], 8), tall(l[0], 9), with(l[0], 1), l[1]}
	d := holding(t, 0, texts(records)...)
	was := lookAt(t, d)
	checkTells(t, opens(t, d, 7), []api.Entry{with(l[0], 1), l[1], tall(l[2], 8)}, 7, 0)
	checkLook(t, d, was)
	d = holding(t, 0, texts([]api.Entry{l[0], l[1], tall(l[1], 7), l[2]})...)
	checkTells(t, opens(t, d, 3), []api.Entry{l[0], tall(l[1], 7)}, 3, 0)
}

// Promises 13.2, 13.5: falls while what is wrong is cut away: all of it stays, or none, and it is cut away at the next time.
func TestOpenFalls(t *testing.T) {
	l := row(4)
	records := append(texts(l), "no entry", wantBytes(on(l[3], 1)))
	for _, x := range []struct {
		fall api.Fall
		cut  bool
	}{
		{api.Fall{At: 1, Keep: 9, Torn: 9}, false},
		{api.Fall{At: 2, Keep: 0, Torn: 9, Sync: true}, false},
		{api.Fall{At: 2, Keep: 1, Sync: true}, true},
	} {
		d := holding(t, 4, records...)
		d.Plan([]api.Fall{x.fall})
		refuses(t, d, "i", api.ErrDead)
		d.Up()
		if x.cut {
			checkFile(t, d, 4, true, texts(l)...)
		} else {
			checkFile(t, d, 4, true, records...)
		}
		for range 2 {
			checkTells(t, opens(t, d, 4), l, 4, 0)
			checkFile(t, d, 4, true, texts(l)...)
		}
	}
}

// Promise 13.2: an index is told as it was put, whoever reads the journal.
func TestOpenOfPut(t *testing.T) {
	good, _ := bounds()
	d := disk.New()
	x := opens(t, d, 0)
	for i := range good {
		good[i].Header.Nonce = uint32(i)
		good[i].Height = 0
	}
	puts(t, x, good...)
	y := opens(t, d, len(good))
	checkTells(t, y, good, len(good), 0)
	j, e := journal.Open(d, "i")
	if e != api.OK || !slices.Equal(j.All(), texts(good)) {
		t.Fatal("the journal tells other records", e)
	}
}

// Promises 13.2, 13.4: two indexes on one disk, under two names, go their own ways.
func TestTwoNames(t *testing.T) {
	d := disk.New()
	l := row(3)
	a, _, _ := Open(d, "a")
	b, _, _ := Open(d, "b")
	puts(t, a, l...)
	puts(t, b, alone(1))
	answers(t, b.Compact(), api.OK)
	checkTells(t, a, l, 3, 3)
	checkTells(t, b, []api.Entry{alone(1)}, 1, 0)
	a, n, e := Open(d, "a")
	if n != 3 || e != api.OK {
		t.Fatal(n, e)
	}
	checkTells(t, a, l, 3, 0)
}

// Promises 13.2, 13.3: a journal may have more entries than Put lets there be.
func TestOpenMany(t *testing.T) {
	l := make([]api.Entry, 20003)
	for i := range l {
		l[i] = alone(uint32(i + 5000))
	}
	d := holding(t, math.MaxUint64, texts(l)...)
	x := opens(t, d, len(l))
	answers(t, x.Put(alone(1)), api.ErrMany)
	answers(t, x.Put(with(l[20002], 1)), api.OK)
	if x.Len() != 20003 || x.Records() != 20004 || x.Loose() != 1 {
		t.Fatal(x.Len(), x.Records(), x.Loose())
	}
}
