package tx

import (
	"math"
	"math/rand"
	"strings"
	"testing"

	"bedrock/api"
)

// checks is that Check tells so.
func checks(t *testing.T, name string, x api.Tx, want api.Errno) {
	t.Helper()
	if e := Check(x); e != want {
		t.Errorf("Check of %s: %d, not %d", name, e, want)
	}
}

// coinbase is a coinbase with a key of n bytes.
func coinbase(n int) api.Tx {
	x := plain(1, 1)
	x.Ins[0].Point, x.Ins[0].Key = null, strings.Repeat("k", n)
	return x
}

// spends is a transaction with inputs of these points.
func spends(points ...api.Point) api.Tx {
	x := plain(len(points), 1)
	for i, p := range points {
		x.Ins[i].Point = p
	}
	return x
}

// pays is a transaction with outputs of these values.
func pays(values ...uint64) api.Tx {
	x := plain(1, len(values))
	for i, v := range values {
		x.Outs[i].Value = v
	}
	return x
}

// Promise 10.3 and the chapter's examples: what is right, and what has no inputs or no outputs.
func TestCheckEmpty(t *testing.T) {
	checks(t, "one of each", plain(1, 1), api.OK)
	checks(t, "many", plain(40, 40), api.OK)
	checks(t, "4096 bytes", sized(4096), api.OK)
	checks(t, "nothing", api.Tx{}, api.ErrEmpty)
	checks(t, "empty lists", api.Tx{Ins: []api.In{}, Outs: []api.Out{}}, api.ErrEmpty)
	checks(t, "no inputs", plain(0, 1), api.ErrEmpty)
	checks(t, "no outputs", plain(1, 0), api.ErrEmpty)
	bare := coinbase(2)
	bare.Outs = nil
	checks(t, "a coinbase without outputs", bare, api.ErrEmpty)
}

// Promise 10.3: the errors of Encode.
func TestCheckTold(t *testing.T) {
	for _, n := range []int{0, 520, 521} {
		want := api.OK
		if n > 520 {
			want = api.ErrScript
		}
		key, lock := plain(2, 2), plain(2, 2)
		key.Ins[1].Key = strings.Repeat("k", n)
		lock.Outs[1].Lock = strings.Repeat("l", n)
		checks(t, "a long key", key, want)
		checks(t, "a long lock", lock, want)
	}
	checks(t, "4097 bytes", sized(4097), api.ErrSize)
	both := sized(4200)
	both.Ins[0].Key = strings.Repeat("k", 521)
	checks(t, "both", both, api.ErrScript)
}

// values is lists of values, and whether they are too great.
var values = []struct {
	list []uint64
	want api.Errno
}{
	{[]uint64{0}, api.OK},
	{[]uint64{999999}, api.OK},
	{[]uint64{1000000}, api.OK},
	{[]uint64{1000001}, api.ErrValue},
	{[]uint64{1 << 32}, api.ErrValue},
	{[]uint64{1 << 63}, api.ErrValue},
	{[]uint64{math.MaxUint64}, api.ErrValue},
	{[]uint64{1000000, 0, 0}, api.OK},
	{[]uint64{0, 0, 1000000}, api.OK},
	{[]uint64{1000000, 1}, api.ErrValue},
	{[]uint64{1, 1000000}, api.ErrValue},
	{[]uint64{500000, 500000}, api.OK},
	{[]uint64{500000, 500001}, api.ErrValue},
	{[]uint64{500000, 499999, 1}, api.OK},
	{[]uint64{500000, 499999, 2}, api.ErrValue},
	{[]uint64{500000, 500001, 0}, api.ErrValue},
	{[]uint64{1000000, 1000000}, api.ErrValue},
	{[]uint64{0, 1000001, 0}, api.ErrValue},
	{[]uint64{1, math.MaxUint64}, api.ErrValue},
	{[]uint64{math.MaxUint64, 1}, api.ErrValue},
	{[]uint64{math.MaxUint64, 2}, api.ErrValue},
	{[]uint64{1 << 63, 1 << 63}, api.ErrValue},
	{[]uint64{1000000, math.MaxUint64 - 999999}, api.ErrValue},
	{[]uint64{5, math.MaxUint64 - 4, 5}, api.ErrValue},
}

// Promise 10.3: values at MaxMoney and above it, one alone and all together, also where the sum passes 64 bits.
func TestCheckValue(t *testing.T) {
	for _, x := range values {
		var sum uint64
		for _, v := range x.list {
			sum += v
		}
		if x.want != api.OK {
			sum = 0
		}
		checks(t, "values", pays(x.list...), x.want)
		if got, e := Paid(pays(x.list...)); got != sum || e != x.want {
			t.Errorf("Paid of %v: %d %d", x.list, got, e)
		}
	}
}

// Promise 10.3: Paid looks at the values alone.
func TestPaid(t *testing.T) {
	for name, x := range map[string]api.Tx{"nothing": {}, "no outputs": plain(2, 0), "an empty list": {Outs: []api.Out{}}} {
		if n, e := Paid(x); n != 0 || e != api.OK {
			t.Errorf("Paid of %s: %d %d", name, n, e)
		}
	}
	x := sized(4200)
	x.Outs[0] = api.Out{Value: 900000, Lock: strings.Repeat("l", 600)}
	want := uint64(900000 + len(x.Outs) - 1)
	if n, e := Paid(x); n != want || e != api.OK {
		t.Errorf("Paid of what may not be told: %d %d", n, e)
	}
	lots := rand.New(rand.NewSource(105))
	for range 5000 {
		var list []uint64
		sum, great := uint64(0), false
		for range lots.Intn(6) {
			v := uint64(lots.Intn(400000))
			if lots.Intn(20) == 0 {
				v = lots.Uint64() >> lots.Intn(64)
			}
			great = great || v > 1000000
			list, sum = append(list, v), sum+v
		}
		want := api.OK
		if great || sum > 1000000 {
			sum, want = 0, api.ErrValue
		}
		if n, e := Paid(pays(list...)); n != sum || e != want {
			t.Fatalf("Paid of %v: %d %d", list, n, e)
		}
	}
}

// Promise 10.3: two inputs of one point, whichever they are, and points that differ in one part alone.
func TestCheckTwin(t *testing.T) {
	a, b, c := point(1), point(2), point(3)
	for _, x := range []struct {
		points []api.Point
		want   api.Errno
	}{
		{[]api.Point{a, b, c}, api.OK},
		{[]api.Point{a, a}, api.ErrTwin},
		{[]api.Point{a, a, b}, api.ErrTwin},
		{[]api.Point{a, b, a}, api.ErrTwin},
		{[]api.Point{a, b, b}, api.ErrTwin},
		{[]api.Point{a, b, c, b}, api.ErrTwin},
		{[]api.Point{a, b, c, c, a}, api.ErrTwin},
		{[]api.Point{{Tx: a.Tx, Index: 1}, {Tx: a.Tx, Index: 2}}, api.OK},
		{[]api.Point{{Tx: a.Tx, Index: 1}, {Tx: b.Tx, Index: 1}}, api.OK},
		{[]api.Point{{Tx: api.Hash{0: 1}}, {Tx: api.Hash{31: 1}}}, api.OK},
		{[]api.Point{{}, {}}, api.ErrTwin},
		{[]api.Point{{}, {Index: 1}}, api.OK},
	} {
		checks(t, "inputs", spends(x.points...), x.want)
	}
	twin := spends(a, a)
	twin.Ins[0].Key, twin.Ins[1].Sequence = "another", 9
	checks(t, "a twin with another key and sequence", twin, api.ErrTwin)
	many := plain(90, 1)
	checks(t, "many inputs", many, api.OK)
	many.Ins[89].Point = many.Ins[44].Point
	checks(t, "many inputs, the last one twice", many, api.ErrTwin)
}

// Promise 10.3: a coinbase's key has 2 to 100 bytes.
func TestCheckBase(t *testing.T) {
	for _, n := range []int{0, 1, 2, 3, 99, 100, 101, 102, 520} {
		want := api.OK
		if n < 2 || n > 100 {
			want = api.ErrBase
		}
		checks(t, "a coinbase", coinbase(n), want)
		other := coinbase(n)
		other.Ins[0].Point = point(1)
		checks(t, "a key of another one", other, api.OK)
	}
	checks(t, "a key that is too long at all", coinbase(521), api.ErrScript)
}

// Promise 10.3: a coinbase's point among other inputs; one half of it alone is a point as any other.
func TestCheckNull(t *testing.T) {
	a, b := point(1), point(2)
	for _, x := range []struct {
		points []api.Point
		want   api.Errno
	}{
		{[]api.Point{null, a}, api.ErrNull},
		{[]api.Point{a, null}, api.ErrNull},
		{[]api.Point{a, null, b}, api.ErrNull},
		{[]api.Point{null, null}, api.ErrTwin},
		{[]api.Point{null, a, a}, api.ErrTwin},
		{[]api.Point{{}}, api.OK},
		{[]api.Point{{Index: 4294967294}}, api.OK},
		{[]api.Point{{Tx: api.Hash{0: 1}, Index: 4294967295}}, api.OK},
		{[]api.Point{{Tx: api.Hash{31: 1}, Index: 4294967295}}, api.OK},
		{[]api.Point{a, {}}, api.OK},
		{[]api.Point{a, {Tx: api.Hash{31: 1}, Index: 4294967295}}, api.OK},
	} {
		checks(t, "inputs", spends(x.points...), x.want)
	}
}

// Promise 10.3: of several things that are wrong the first in the promise's order.
func TestCheckOrder(t *testing.T) {
	wrong := spends(null, null)
	wrong.Outs[0].Value = 1000001
	checks(t, "a great value, a twin, a null point", wrong, api.ErrValue)

	bad := coinbase(1)
	bad.Outs[0].Value = 1000001
	checks(t, "a great value, a coinbase's key", bad, api.ErrValue)

	none := plain(0, 2)
	none.Outs[0].Value = 1000001
	checks(t, "no inputs, a great value", none, api.ErrEmpty)

	twins := spends(null, null)
	twins.Outs = nil
	checks(t, "no outputs, a twin", twins, api.ErrEmpty)

	long := plain(0, 1)
	long.Outs[0] = api.Out{Value: 1000001, Lock: strings.Repeat("l", 521)}
	checks(t, "a long lock, no inputs, a great value", long, api.ErrScript)

	size := sized(4097)
	size.Ins[0].Point = null
	size.Ins = append(size.Ins, size.Ins[0])
	size.Outs[0].Value = math.MaxUint64
	checks(t, "too many bytes, a great value, a twin", size, api.ErrSize)

	great := sized(4200)
	great.Outs[0] = api.Out{Value: math.MaxUint64, Lock: strings.Repeat("l", 521)}
	checks(t, "a long lock, too many bytes, a great value", great, api.ErrScript)
}
