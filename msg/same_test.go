package msg

import (
	"math/rand"
	"reflect"
	"strings"
	"testing"

	"bedrock/api"
)

// unlike calls with each message that differs from m in one spot of v, which is a field of m: one number, one byte of a text, one element or length of a list.
func unlike(v reflect.Value, call func()) {
	old := reflect.New(v.Type()).Elem()
	old.Set(v)
	change := func(with any) {
		v.Set(reflect.ValueOf(with).Convert(v.Type()))
		call()
		v.Set(old)
	}
	switch v.Kind() {
	case reflect.Bool:
		change(!v.Bool())
	case reflect.Int, reflect.Int64:
		change(v.Int() + 1)
		change(v.Int() ^ -1<<63)
	case reflect.String:
		change(v.String() + "x")
		change(strings.Replace(v.String()+"y", "a", "b", 1))
	case reflect.Array:
		for i := range v.Len() {
			unlike(v.Index(i), call)
		}
	case reflect.Struct:
		for i := range v.NumField() {
			unlike(v.Field(i), call)
		}
	case reflect.Slice:
		unlikeLists(v, call)
		v.Set(old)
	default:
		change(v.Uint() ^ 1)
		change(v.Uint() ^ 1<<(v.Type().Bits()-1))
	}
}

// unlikeLists calls with one element more, one fewer, and each element unlike.
func unlikeLists(v reflect.Value, call func()) {
	old := v.Slice(0, v.Len())
	v.Set(reflect.Append(old, reflect.Zero(v.Type().Elem())))
	call()
	if old.Len() == 0 {
		return
	}
	v.Set(old.Slice(0, old.Len()-1))
	call()
	v.Set(old.Slice(1, old.Len()))
	call()
	v.Set(reflect.AppendSlice(reflect.Zero(v.Type()), old))
	for i := range v.Len() {
		unlike(v.Index(i), call)
	}
}

// everything is a message in which every field has something, though no kind names them all.
func everything(n int) api.Msg {
	m := api.Msg{Kind: 1, Version: 1, Services: 2, Nonce: 3, Time: -4, To: api.Net{Time: 1, Services: 2, Port: 3}, From: api.Net{Time: 4, Services: 5, Port: 6}, Agent: "agent", Height: 7, Relay: true, High: true, Stop: api.Hash{1}, Hash: api.Hash{2}, Head: "a head", Raw: "a raw"}
	for i := range n {
		m.Addrs = append(m.Addrs, api.Net{Time: uint32(i), Port: 9})
		m.Items = append(m.Items, api.Item{Kind: uint32(i), Hash: api.Hash{3}})
		m.Hashes = append(m.Hashes, api.Hash{byte(i)})
		m.Heads = append(m.Heads, strings.Repeat("a", i))
		m.Shorts = append(m.Shorts, uint64(i))
		m.Filled = append(m.Filled, api.Filled{Place: i, Raw: strings.Repeat("a", i)})
		m.Places = append(m.Places, i)
		m.Raws = append(m.Raws, strings.Repeat("a", i))
	}
	return m
}

// Promise 9.4: two messages that are unlike in one spot alone, for each field, are not the same.
func TestSame(t *testing.T) {
	for _, m := range []api.Msg{{}, everything(0), everything(1), everything(3), {Kind: -1}} {
		other := m
		if !Same(m, other) {
			t.Fatalf("%v is not the same as itself", m)
		}
		spots := 0
		unlike(reflect.ValueOf(&other).Elem(), func() {
			spots++
			if Same(m, other) || Same(other, m) || wantSame(m, other) {
				t.Errorf("%v is the same as %v", m, other)
			}
		})
		if spots < 150 || !Same(m, other) {
			t.Fatalf("%d spots were tried", spots)
		}
	}
}

// Promise 9.4 and rule R3: empty lists, with room and without, are the same as none; lists in other memory are the same.
func TestSameLists(t *testing.T) {
	for _, m := range []api.Msg{{}, everything(0)} {
		for _, room := range []int{0, 5} {
			other := m
			fields(&other, func(name string, v reflect.Value) {
				if v.Kind() == reflect.Slice {
					v.Set(reflect.MakeSlice(v.Type(), 0, room))
				}
				if !Same(m, other) || !Same(other, m) {
					t.Errorf("empty %s are not the same as none", name)
				}
			})
		}
	}
	if a, b := everything(4), everything(4); !Same(a, b) || !Same(b, a) {
		t.Error("lists in other memory are not the same")
	}
	swapped := everything(2)
	swapped.Places[0], swapped.Places[1] = swapped.Places[1], swapped.Places[0]
	if Same(swapped, everything(2)) {
		t.Error("lists in another order are the same")
	}
}

// Promise 9.4: Same answers as the model does, of messages that have some fields of one another.
func TestSameLots(t *testing.T) {
	lots := rand.New(rand.NewSource(100))
	for range 5000 {
		kind := 1 + lots.Intn(18)
		a := lotMsg(lots, kind, lots.Intn(3))
		b := lotMsg(lots, kind, lots.Intn(3))
		theirs := reflect.ValueOf(a)
		fields(&b, func(name string, v reflect.Value) {
			if lots.Intn(8) > 0 {
				v.Set(theirs.FieldByName(name))
			}
		})
		if Same(a, b) != wantSame(a, b) {
			t.Fatalf("Same(%v, %v): %v", a, b, Same(a, b))
		}
	}
}

// Promise 9.4: what a message holds.
func TestCost(t *testing.T) {
	for _, x := range []struct {
		m    api.Msg
		want int
	}{
		{api.Msg{}, 64},
		{Bare(api.MsgVerack), 64},
		{api.Msg{Kind: 5, Nonce: 1 << 63}, 64},
		{api.Msg{Kind: -7, Version: 1, Services: 2, Time: 3, To: api.Net{Time: 4}, Height: 5, Relay: true, High: true, Stop: api.Hash{6}, Hash: api.Hash{7}}, 64},
		{api.Msg{Kind: 1, Agent: "agent"}, 69},
		{api.Msg{Kind: 16, Head: head}, 144},
		{api.Msg{Kind: 13, Raw: strings.Repeat("r", 20000)}, 20064},
		{api.Msg{Kind: 7, Addrs: make([]api.Net, 100)}, 4064},
		{api.Msg{Kind: 8, Items: make([]api.Item, 3, 50)}, 184},
		{api.Msg{Kind: 11, Hashes: make([]api.Hash, 2)}, 144},
		{api.Msg{Kind: 12, Heads: []string{head, "", "xyz"}}, 64 + 3*40 + 83},
		{api.Msg{Kind: 16, Shorts: make([]uint64, 500)}, 20064},
		{api.Msg{Kind: 16, Filled: []api.Filled{{Place: 1, Raw: "xy"}, {Place: 9}}}, 64 + 2*40 + 2},
		{api.Msg{Kind: 17, Places: []int{1, 2, 3}}, 184},
		{api.Msg{Kind: 18, Raws: []string{"a", "bc", ""}}, 64 + 3*40 + 3},
		{everything(0), 64 + 5 + 6 + 5},
		{everything(3), 64 + 5 + 6 + 5 + 8*3*40 + 3*(0+1+2)},
	} {
		if n := Cost(x.m); n != x.want {
			t.Errorf("Cost(%.200v): %d, not %d", x.m, n, x.want)
		}
	}
}
