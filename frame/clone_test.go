package frame

import (
	"math/rand"
	"strings"
	"testing"

	"bedrock/api"
)

// Promise 8.3: a copy at each point of a stream is the same, and each goes its own way.
func TestClone(t *testing.T) {
	a, b := api.Frame{Command: "one", Payload: "for x"}, api.Frame{Command: "two", Payload: "for y"}
	s := good(api.Frame{Command: "ahead"}) + good(a)
	other := good(api.Frame{Command: "ahead"}) + good(b)
	for n := range 24 + 4 {
		x, m := started()
		m.feeds(t, x, s[:n])
		y, of := x.Clone(), *m
		if y == x || y == nil {
			t.Fatal("Clone is no stream of its own")
		}
		of.sameAs(t, y)
		for i := n; i < len(s); i++ { // by turns, so that what one lays behind its end is not the other's
			m.feeds(t, x, s[i:i+1])
			of.feeds(t, y, other[i:i+1])
		}
		m.asks(t, x)
		of.sameAs(t, y)
		if f, ok, e := m.asks(t, x); f != a || !ok || e != api.OK {
			t.Fatalf("of the first Next %q %v %d", f, ok, e)
		}
		of.asks(t, y)
		if f, ok, e := of.asks(t, y); f != b || !ok || e != api.OK {
			t.Fatalf("of the copy Next %q %v %d", f, ok, e)
		}
	}
}

// Promise 8.3: one of two is broken, the other is not.
func TestCloneBreaks(t *testing.T) {
	for _, copyBreaks := range []bool{false, true} {
		x, m := started()
		m.feeds(t, x, good(api.Frame{Command: "a"})+"\xf9")
		m.asks(t, x)
		y, of := x.Clone(), *m
		bad, good := y, x
		badM, goodM := &of, m
		if !copyBreaks {
			bad, good, badM, goodM = x, y, m, &of
		}
		badM.feeds(t, bad, "x")
		badM.asks(t, bad)
		stays(t, bad, api.ErrMagic, 1)
		goodM.sameAs(t, good)
		if goodM.feeds(t, good, "\xbe") != 1 {
			t.Fatal("the other one takes nothing")
		}
	}
}

// Promise 8.3: a copy of a copy, with many steps by lots on all of them.
func TestClonesByLots(t *testing.T) {
	lots := rand.New(rand.NewSource(83))
	x, m := started()
	streams, models := []*Stream{x}, []*model{m}
	for range 4000 {
		i := lots.Intn(len(streams))
		switch lots.Intn(8) {
		case 0:
			of := *models[i]
			streams, models = append(streams, streams[i].Clone()), append(models, &of)
		case 1, 2, 3:
			f := api.Frame{Command: "a", Payload: lotsOf(lots, lots.Intn(30))}
			models[i].feeds(t, streams[i], good(f)[:min(len(good(f)), max(4, models[i].need()))])
		default:
			models[i].asks(t, streams[i])
		}
		if len(streams) > 12 {
			streams, models = streams[6:], models[6:]
		}
	}
	for i := range streams {
		models[i].sameAs(t, streams[i])
	}
}

// Promise 8.4: every call on a nil Stream.
func TestNil(t *testing.T) {
	var x *Stream
	for range 2 {
		for _, s := range []string{"", "x", good(api.Frame{Command: "a"}), strings.Repeat("x", api.HeldMost+1)} {
			if n := x.Feed(s); n != 0 {
				t.Errorf("Feed %d", n)
			}
			if f, ok, e := x.Next(); f != (api.Frame{}) || ok || e != api.ErrArg {
				t.Errorf("Next %q %v %d", f, ok, e)
			}
		}
		if x.Held() != 0 || x.Need() != 0 || x.Taken() != 0 || x.Broken() != api.ErrArg || x.Clone() != nil {
			t.Errorf("Held %d Need %d Taken %d Broken %d Clone %v", x.Held(), x.Need(), x.Taken(), x.Broken(), x.Clone())
		}
	}
}
