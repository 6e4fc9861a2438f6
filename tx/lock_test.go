package tx

import (
	"math"
	"math/rand"
	"strings"
	"testing"

	"bedrock/api"
)

// keys is keys of unlike lengths.
var keys = []string{"", "x", "y", "\x00", "key", strings.Repeat("k", 55), strings.Repeat("k", 64), strings.Repeat("k", 520), strings.Repeat("k", 3000)}

// Promise 10.4: the first n bytes of the digest of the key, for n from 0 to 32.
func TestLock(t *testing.T) {
	for _, key := range keys {
		d := digest(key)
		for n := -3; n < 40; n++ {
			got, e := Lock(key, n)
			if n < 0 || n > 32 {
				if got != "" || e != api.ErrArg {
					t.Errorf("Lock of %d bytes: %x %d", n, got, e)
				}
			} else if got != string(d[:n]) || e != api.OK {
				t.Errorf("Lock of %d bytes: %x %d", n, got, e)
			}
		}
	}
	for _, n := range []int{math.MinInt, -1, 33, 1 << 32, math.MaxInt} {
		if got, e := Lock("x", n); got != "" || e != api.ErrArg {
			t.Errorf("Lock of %d bytes: %x %d", n, got, e)
		}
	}
}

// Promises 10.4 and 10.5: a key opens each of its locks, and not another one's but the empty one.
func TestOpensOwn(t *testing.T) {
	for i, key := range keys {
		for n := range 33 {
			lock, _ := Lock(key, n)
			if !Opens(lock, key) {
				t.Errorf("key %d does not open its lock of %d bytes", i, n)
			}
			for j, other := range keys {
				od := digest(other)
				if got := Opens(lock, other); got != strings.HasPrefix(string(od[:]), lock) {
					t.Errorf("key %d on the lock of %d bytes of key %d: %v", j, n, i, got)
				}
			}
		}
	}
}

// Promise 10.4: the empty lock, a beginning, the whole digest, what is longer, and locks with another byte.
func TestOpens(t *testing.T) {
	for _, key := range keys {
		d := digest(key)
		whole := string(d[:])
		for _, x := range []struct {
			lock string
			want bool
		}{
			{"", true},
			{whole[:1], true},
			{whole[:31], true},
			{whole, true},
			{whole + "\x00", false},
			{whole + "x", false},
			{whole + whole, false},
			{whole + strings.Repeat("\x00", 488), false},
			{whole[1:], false},
			{whole[1:2] + whole[:1], false},
			{strings.Repeat("\x00", 33), false},
			{strings.Repeat("\x00", 600), false},
			{key + "\x01", false},
		} {
			if got := Opens(x.lock, key); got != x.want {
				t.Errorf("Opens(%x, %.20q): %v", x.lock, key, got)
			}
		}
		for n := 1; n <= 32; n++ {
			for _, at := range []int{0, n / 2, n - 1} {
				other := []byte(whole[:n])
				other[at] ^= 1
				if Opens(string(other), key) {
					t.Errorf("a lock of %d bytes with another one at %d is opened", n, at)
				}
			}
		}
	}
	if !Opens("", "x") {
		t.Error("the empty lock is not opened")
	}
}

// with is a transaction of that time, with inputs of these sequences.
func with(time uint32, sequences ...uint32) api.Tx {
	x := api.Tx{Time: time}
	for _, s := range sequences {
		x.Ins = append(x.Ins, api.In{Sequence: s})
	}
	return x
}

const last = 4294967295

// Promise 10.4: each edge of what is final.
func TestFinal(t *testing.T) {
	for _, x := range []struct {
		t      api.Tx
		height int
		time   uint32
		want   bool
	}{
		{with(0, 0), 0, 0, true},
		{with(0, 0, 5), math.MinInt, 0, true},
		{with(0), -1, 0, true},
		{with(5, 0), 5, last, false},
		{with(5, 0), 6, 0, true},
		{with(5, 0), 4, last, false},
		{with(1, 0), 0, last, false},
		{with(1, 0), 1, last, false},
		{with(1, 0), 2, 0, true},
		{with(1, 0), -1, last, false},
		{with(1, 0), -2, last, false},
		{with(1, 0), math.MinInt, last, false},
		{with(1, 0), math.MaxInt, 0, true},
		{with(499999999, 0), 499999999, last, false},
		{with(499999999, 0), 500000000, 0, true},
		{with(499999999, 0), 0, last, false},
		{with(499999999, 0), 1 << 32, 0, true},
		{with(499999999, 0), math.MinInt, last, false},
		{with(500000000, 0), math.MaxInt, 499999999, false},
		{with(500000000, 0), math.MaxInt, 500000000, false},
		{with(500000000, 0), 0, 500000001, true},
		{with(500000000, 0), -1, 500000001, true},
		{with(500000000, 0), math.MinInt, last, true},
		{with(500000001, 0), 0, 500000001, false},
		{with(last, 0), math.MaxInt, last, false},
		{with(last-1, 0), 0, last, true},
		{with(1<<31, 0), 0, 1<<31 + 1, true},
		{with(1<<31, 0), 0, 1<<31 - 1, false},
		{with(5, last), 0, 0, true},
		{with(5, last, last, last), 0, 0, true},
		{with(last, last), -1, 0, true},
		{with(500000000, last, last), 0, 0, true},
		{with(5, last-1), 0, 0, false},
		{with(5, last-1, last), 0, 0, false},
		{with(5, last, last-1), 0, 0, false},
		{with(5, last, 0, last), 0, 0, false},
		{with(5, last, 0, last), 6, 0, true},
		{with(5, 0, 0), 0, 0, false},
		{with(5), 0, 0, true},
		{with(last), 0, 0, true},
		{api.Tx{Time: last, Ins: []api.In{}}, -5, 0, true},
	} {
		if got := Final(x.t, x.height, x.time); got != x.want {
			t.Errorf("Final of the time %d, %d inputs, at %d and %d: %v", x.t.Time, len(x.t.Ins), x.height, x.time, got)
		}
	}
}

// Promise 10.4: by lots around the edges, against the words; a height below 0 counts as 0.
func TestFinalLots(t *testing.T) {
	lots := rand.New(rand.NewSource(106))
	edges := []int64{0, 1, 2, 499999998, 499999999, 500000000, 500000001, last - 1, last}
	for range 50000 {
		x := with(uint32(edges[lots.Intn(len(edges))]))
		all := true
		for range lots.Intn(4) {
			s := uint32(last - lots.Intn(5)/4)
			all = all && s == last
			x.Ins = append(x.Ins, api.In{Sequence: s})
		}
		height, time := edges[lots.Intn(len(edges))]-int64(lots.Intn(2)*lots.Intn(5)), edges[lots.Intn(len(edges))]
		want := x.Time == 0 || all
		if x.Time < 500000000 {
			want = want || int64(x.Time) < max(height, 0)
		} else {
			want = want || int64(x.Time) < time
		}
		if got := Final(x, int(height), uint32(time)); got != want {
			t.Fatalf("Final of %v at %d and %d: %v", x, height, time, got)
		}
	}
}
