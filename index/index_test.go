package index

import (
	"fmt"
	"math"
	"slices"
	"testing"

	"bedrock/api"
	"bedrock/block"
	"bedrock/disk"
)

// The chapter's example.
func TestExample(t *testing.T) {
	x := opens(t, disk.New(), 0)
	g := block.Genesis().Header
	answers(t, x.Put(api.Entry{Header: g, Height: 0}), api.OK)
	answers(t, x.Put(api.Entry{Header: api.Header{Prev: block.ID(g)}, Height: 2}), api.ErrTall)
	answers(t, x.Put(api.Entry{Header: api.Header{Prev: api.Hash{9}}, Height: 1}), api.ErrPrev)
	checkTells(t, x, []api.Entry{{Header: g}}, 1, 1)
}

// Promise 13.3: entries once, again with another state, and again as they were: a record each time.
func TestPut(t *testing.T) {
	d := disk.New()
	x := opens(t, d, 0)
	l := row(4)
	var records []api.Entry
	for _, e := range []api.Entry{
		l[0], l[1], with(l[1], 1), with(l[1], 1), l[2], with(l[0], 3), with(l[1], 15), l[3], l[1], with(l[3], 4),
		alone(1), alone(2), on(alone(2), 1), with(alone(1), 8), on(l[0], 50), on(l[3], 51),
	} {
		answers(t, x.Put(e), api.OK)
		records = append(records, e)
		checkTells(t, x, played(records), len(records), len(records))
		checkFile(t, d, 0, false, texts(records)...)
	}
	if d.Sure()["i"] != wantFile(t, 0) {
		t.Fatal("records are sure ahead of Flush")
	}
}

// Promise 13.3: what may not be put, each error ahead of those that come behind it; nothing is changed.
func TestPutRefused(t *testing.T) {
	l := row(3)
	d, x := began(t, l...)
	puts(t, x, with(l[1], 1))
	was := lookAt(t, d)
	_, bad := bounds()
	for _, e := range bad {
		answers(t, x.Put(e), api.ErrEntry)
		e.Header = l[0].Header
		answers(t, x.Put(e), api.ErrEntry)
	}
	for _, height := range []int{1, 2, 3, 20000} {
		answers(t, x.Put(tall(on(alone(1), 1), height)), api.ErrPrev)
		answers(t, x.Put(tall(api.Entry{}, height)), api.ErrPrev)
	}
	for _, height := range []int{1, 2, 4, 5, 19999, 20000} {
		answers(t, x.Put(tall(on(l[2], 1), height)), api.ErrTall)
	}
	for i, e := range l {
		for _, height := range []int{0, 1, 2, 3, 20000} {
			if height != i {
				answers(t, x.Put(tall(e, height)), api.ErrArg)
				answers(t, x.Put(tall(with(e, 2), height)), api.ErrArg)
			}
		}
	}
	checkLook(t, d, was)
	checkTells(t, x, []api.Entry{l[0], with(l[1], 1), l[2]}, 4, 1)
}

// Promise 13.3: the least and the greatest height, MaxTree and 1 entries, and one more.
func TestPutMany(t *testing.T) {
	l := row(20001)
	d, x := began(t, l[:19999]...)
	puts(t, x, l[19999], l[20000])
	was := lookAt(t, d)
	answers(t, x.Put(alone(1)), api.ErrMany)
	answers(t, x.Put(on(l[5], 1)), api.ErrMany)
	answers(t, x.Put(tall(on(l[5], 1), 9)), api.ErrMany)
	answers(t, x.Put(tall(on(alone(1), 1), 9)), api.ErrMany)
	answers(t, x.Put(on(l[20000], 1)), api.ErrEntry)
	answers(t, x.Put(tall(l[20000], 5)), api.ErrArg)
	checkLook(t, d, was)
	puts(t, x, with(l[20000], 1), with(l[0], 2))
	if x.Len() != 20001 || x.Records() != 20003 || x.Loose() != 4 {
		t.Fatal(x.Len(), x.Records(), x.Loose())
	}
	if e, ok := x.Get(idOf(l[20000])); e != with(l[20000], 1) || !ok {
		t.Fatal(e, ok)
	}
	answers(t, x.Compact(), api.OK)
	answers(t, x.Put(alone(1)), api.ErrMany)
	if opens(t, d, 20001).Len() != 20001 {
		t.Fatal("not all are there")
	}
}

// Promises 13.3, 13.4: a file that can take no more refuses a record; the index lives on, and Compact makes room.
func TestPutFull(t *testing.T) {
	l := make([]string, (1<<24-20)/113)
	for i := range l {
		l[i] = wantBytes(first())
	}
	d := holding(t, 0, l...)
	x := opens(t, d, len(l))
	answers(t, x.Put(with(first(), 1)), api.ErrFull)
	answers(t, x.Put(alone(1)), api.ErrFull)
	answers(t, x.Put(on(alone(1), 1)), api.ErrPrev)
	checkTells(t, x, []api.Entry{first()}, len(l), 0)
	answers(t, x.Compact(), api.OK)
	checkTells(t, x, []api.Entry{first()}, 1, 0)
	puts(t, x, alone(1))
	checkTells(t, x, []api.Entry{first(), alone(1)}, 2, 1)
	checkFile(t, d, 1, false, wantBytes(first()), wantBytes(alone(1)))
}

// Promise 13.4: Flush makes all records sure, and is asked as often as one likes.
func TestFlush(t *testing.T) {
	d := disk.New()
	x := opens(t, d, 0)
	l := row(5)
	answers(t, x.Flush(), api.OK)
	for i, e := range l {
		puts(t, x, e, with(e, 1))
		checkTells(t, x, append(slices.Clone(l[:i]), with(e, 1)), 3*i+2, 2)
		puts(t, x, e)
		checkTells(t, x, l[:i+1], 3*i+3, 3)
		for range 2 {
			answers(t, x.Flush(), api.OK)
			checkTells(t, x, l[:i+1], 3*i+3, 0)
			if d.Loose() != 0 || d.Sure()["i"] == "" || len(d.Sure()["i"]) != 20+113*(3*i+3) {
				t.Fatal("not all records are sure", d.Loose())
			}
		}
	}
}

// Promise 13.4: Compact leaves a record for each entry, in their order, all of them sure; behind it records are put as ever.
func TestCompact(t *testing.T) {
	d := disk.New()
	x := opens(t, d, 0)
	l := row(4)
	want := []api.Entry{l[0], with(l[1], 5), alone(1), with(l[2], 9), l[3]}
	answers(t, x.Compact(), api.OK)
	checkTells(t, x, nil, 0, 0)
	checkFile(t, d, 1, true)
	puts(t, x, l[0], with(l[0], 1), l[1], alone(1), l[0], with(l[1], 5))
	answers(t, x.Flush(), api.OK)
	puts(t, x, l[2], l[3], with(l[2], 9))
	checkTells(t, x, want, 9, 3)
	for epoch := uint64(2); epoch < 5; epoch++ {
		answers(t, x.Compact(), api.OK)
		checkTells(t, x, want, 5, 0)
		checkFile(t, d, epoch, true, texts(want)...)
		checkTells(t, opens(t, d, 5), want, 5, 0)
	}
	puts(t, x, with(l[0], 2), on(l[3], 1))
	want = append([]api.Entry{with(l[0], 2)}, append(want[1:], on(l[3], 1))...)
	checkTells(t, x, want, 7, 2)
	checkTells(t, opens(t, d, 7), want, 7, 0)
}

// Promise 13.4: the errors of Renew: an epoch that can't go on leaves all as it was, a full disk ends the journal.
func TestCompactRefused(t *testing.T) {
	l := row(3)
	d := holding(t, math.MaxUint64, texts(l)...)
	x := opens(t, d, 3)
	puts(t, x, with(l[2], 1))
	was := lookAt(t, d)
	answers(t, x.Compact(), api.ErrEpoch)
	checkLook(t, d, was)
	checkTells(t, x, []api.Entry{l[0], l[1], with(l[2], 1)}, 4, 1)
	puts(t, x, l[2])
	answers(t, x.Flush(), api.OK)
	checkTells(t, x, l, 5, 0)

	d, x = began(t, l...)
	puts(t, x, with(l[2], 1))
	for i := range 63 {
		answers(t, d.Write(fmt.Sprint("other-", i), 0, ""), api.OK)
	}
	answers(t, x.Compact(), api.ErrFull)
	checkDead(t, x, []api.Entry{l[0], l[1], with(l[2], 1)}, 4, 1)
	checkTells(t, opens(t, d, 4), []api.Entry{l[0], l[1], with(l[2], 1)}, 4, 0)
}

// checkDead asks that nothing can be put any more, that what may not be put is told as ever, and that the index tells what it told.
func checkDead(t *testing.T, x *Index, l []api.Entry, records, loose int) {
	t.Helper()
	answers(t, x.Put(l[0]), api.ErrDead)
	answers(t, x.Put(alone(1)), api.ErrDead)
	answers(t, x.Put(with(l[0], 16)), api.ErrEntry)
	answers(t, x.Put(on(alone(1), 1)), api.ErrPrev)
	answers(t, x.Put(tall(on(l[0], 700), 9)), api.ErrTall)
	answers(t, x.Put(tall(l[0], 9)), api.ErrArg)
	answers(t, x.Flush(), api.ErrDead)
	answers(t, x.Compact(), api.ErrDead)
	checkTells(t, x, l, records, loose)
}

// Promises 13.3, 13.4: each call whose disk is dead is answered so, and changes nothing; also when the power is on again.
func TestDead(t *testing.T) {
	l := row(3)
	for name, call := range map[string]func(x *Index) api.Errno{
		"Put":     func(x *Index) api.Errno { return x.Put(on(l[2], 1)) },
		"again":   func(x *Index) api.Errno { return x.Put(with(l[2], 7)) },
		"Flush":   (*Index).Flush,
		"Compact": (*Index).Compact,
	} {
		d, x := began(t, l[:2]...)
		puts(t, x, l[2], with(l[2], 1))
		d.Crash(1, 0)
		if e := call(x); e != api.ErrDead {
			t.Fatal(name, e)
		}
		checkDead(t, x, []api.Entry{l[0], l[1], with(l[2], 1)}, 4, 2)
		d.Up()
		checkDead(t, x, []api.Entry{l[0], l[1], with(l[2], 1)}, 4, 2)
		checkTells(t, opens(t, d, 3), l, 3, 0)
	}
}

// Rule R4: All hands out a list of its own.
func TestMemory(t *testing.T) {
	l := row(4)
	_, x := began(t, l[:3]...)
	one, two := x.All(), x.All()
	one[0] = alone(1)
	_ = append(one, alone(2))
	_ = append(one[:1], alone(3))
	checkTells(t, x, l[:3], 3, 0)
	if !slices.Equal(two, l[:3]) {
		t.Fatal("another answer was changed")
	}
	puts(t, x, with(l[0], 1), l[3])
	if !slices.Equal(two, l[:3]) || !slices.Equal(one[1:], []api.Entry{alone(3), l[2]}) {
		t.Fatal("an answer was changed")
	}
}

// Promise 13.4: every call of a nil Index.
func TestNil(t *testing.T) {
	var x *Index
	for _, e := range []api.Entry{{}, first(), on(first(), 1), with(first(), 16), tall(first(), -1)} {
		answers(t, x.Put(e), api.ErrArg)
		if got, ok := x.Get(idOf(e)); got != (api.Entry{}) || ok {
			t.Fatal(got, ok)
		}
	}
	if got, ok := x.Get(api.Hash{}); got != (api.Entry{}) || ok {
		t.Fatal(got, ok)
	}
	answers(t, x.Flush(), api.ErrArg)
	answers(t, x.Compact(), api.ErrArg)
	if len(x.All()) != 0 || x.Len() != 0 || x.Records() != 0 || x.Loose() != 0 {
		t.Fatal("a nil Index tells something")
	}
}
