package frame

import (
	"math"
	"math/rand"
	"strings"
	"testing"

	"bedrock/api"
)

// Promise 8.2: a new stream holds nothing, and is one of its own.
func TestNew(t *testing.T) {
	x, m := started()
	if x == nil {
		t.Fatal("New is nil")
	}
	m.sameAs(t, x)
	if x.Need() != 24 {
		t.Errorf("Need of nothing: %d", x.Need())
	}
	m.asks(t, x)
	if y := New(magic); y.Feed("\xf9") != 1 || x.Held() != 0 {
		t.Error("two new streams are one")
	}
}

// Rule R1: a stream that New did not make has the magic 0.
func TestZeroStream(t *testing.T) {
	var x Stream
	m := &model{}
	m.feeds(t, &x, raw(0, "a", 1, wantSum("x"), "x")+"\x01")
	if f, ok, _ := m.asks(t, &x); f != (api.Frame{Command: "a", Payload: "x"}) || !ok {
		t.Errorf("Next %q %v", f, ok)
	}
	m.asks(t, &x)
	if x.Broken() != api.ErrMagic || x.Clone().Broken() != api.ErrMagic {
		t.Errorf("Broken %d", x.Broken())
	}
}

// Promises 8.2 and 8.3: a frame byte by byte, with Held and Need at each point; it is told once, when it is whole.
func TestByteByByte(t *testing.T) {
	for _, long := range []int{0, 1, 8, 255, 256, 16384} {
		f := api.Frame{Command: "abcdefghijkl", Payload: strings.Repeat("\xf9", long)}
		s := good(f)
		x, m := started()
		for i := range s {
			need := 24 - i
			if i >= 24 {
				need = len(s) - i
			}
			if x.Held() != i || x.Need() != need {
				t.Fatalf("behind %d bytes Held %d Need %d", i, x.Held(), x.Need())
			}
			if got, ok, e := x.Next(); got != (api.Frame{}) || ok || e != api.OK {
				t.Fatalf("behind %d bytes Next %.60q %v %d", i, got, ok, e)
			}
			if n := x.Feed(s[i : i+1]); n != 1 {
				t.Fatalf("Feed of one byte: %d", n)
			}
		}
		m.feed(s)
		m.sameAs(t, x)
		if x.Need() != 0 || x.Held() != len(s) || x.Taken() != 0 {
			t.Fatalf("of a whole frame Need %d Held %d Taken %d", x.Need(), x.Held(), x.Taken())
		}
		if got, ok, e := m.asks(t, x); got != f || !ok || e != api.OK {
			t.Fatalf("Next %.60q %v %d", got, ok, e)
		}
		if x.Need() != 24 || x.Held() != 0 || x.Taken() != 1 {
			t.Fatalf("of a frame that was taken Need %d Held %d Taken %d", x.Need(), x.Held(), x.Taken())
		}
		m.asks(t, x)
	}
}

// Promise 8.2: frames at once are told one by one.
func TestAtOnce(t *testing.T) {
	frames := []api.Frame{{Command: "version", Payload: "v"}, {Command: "verack"}, {Command: "verack"}, {Command: "ping", Payload: strings.Repeat("p", 16384)}, {Command: "!"}}
	var s string
	for _, f := range frames {
		s += good(f)
	}
	x, m := started()
	m.feeds(t, x, s+"\xf9\xbe")
	for i, f := range frames {
		if got, ok, e := m.asks(t, x); got != f || !ok || e != api.OK || x.Taken() != i+1 {
			t.Fatalf("Next %.60q %v %d, Taken %d", got, ok, e, x.Taken())
		}
	}
	if _, ok, e := m.asks(t, x); ok || e != api.OK || x.Held() != 2 || x.Need() != 22 {
		t.Fatalf("Next %v %d, Held %d Need %d", ok, e, x.Held(), x.Need())
	}
}

// Promises 8.2 and 8.3: a frame with another checksum is taken out, is not counted, and the stream goes on behind it.
func TestAnotherSum(t *testing.T) {
	a, b := api.Frame{Command: "a", Payload: "first"}, api.Frame{Command: "b", Payload: "last"}
	for _, bad := range []api.Frame{{Command: "bad"}, {Command: "bad", Payload: "bad"}, {Command: "bad", Payload: strings.Repeat("x", 16384)}, {Command: "bad", Payload: good(a)}} {
		x, m := started()
		m.feeds(t, x, good(a)+badSum(bad)+good(b))
		if f, ok, e := m.asks(t, x); f != a || !ok || e != api.OK {
			t.Fatalf("Next %.60q %v %d", f, ok, e)
		}
		if x.Need() != 0 {
			t.Fatalf("Need of a whole frame with another checksum: %d", x.Need())
		}
		if f, ok, e := m.asks(t, x); f != (api.Frame{}) || ok || e != api.ErrSum || x.Taken() != 1 || x.Broken() != api.OK {
			t.Fatalf("Next %.60q %v %d, Taken %d, Broken %d", f, ok, e, x.Taken(), x.Broken())
		}
		if f, ok, e := m.asks(t, x); f != b || !ok || e != api.OK || x.Taken() != 2 {
			t.Fatalf("Next %.60q %v %d, Taken %d", f, ok, e, x.Taken())
		}
		if x.Held() != 0 {
			t.Fatalf("Held %d", x.Held())
		}
	}
}

// stays asks that a broken stream tells its error, holds nothing and takes nothing, however often it is fed and asked.
func stays(t *testing.T, x *Stream, want api.Errno, taken int) {
	t.Helper()
	for _, s := range []string{"", "x", good(api.Frame{Command: "a"}), strings.Repeat("x", api.HeldMost+1)} {
		if n := x.Feed(s); n != 0 || x.Held() != 0 || x.Need() != 0 {
			t.Fatalf("broken, Feed of %d bytes: %d, Held %d Need %d", len(s), n, x.Held(), x.Need())
		}
		if f, ok, e := x.Next(); f != (api.Frame{}) || ok || e != want || x.Broken() != want || x.Taken() != taken {
			t.Fatalf("broken, Next %.60q %v %d, Broken %d, Taken %d", f, ok, e, x.Broken(), x.Taken())
		}
	}
}

// breaker is bytes that break a stream, and how many of them show it.
type breaker struct {
	s     string
	shown int
	want  api.Errno
}

// breakers are bytes that break a stream, with several errors in one head among them.
func breakers() []breaker {
	list := []breaker{
		{raw(magic, "", 0, wantSum(""), ""), 24, api.ErrCommand},
		{raw(magic, "a b", 0, wantSum(""), ""), 24, api.ErrCommand},
		{raw(magic, "a\x00b", 0, wantSum(""), ""), 24, api.ErrCommand},
		{raw(magic, "\x7f", math.MaxUint32, 0, ""), 24, api.ErrCommand},
		{raw(magic, "a\x00\x00\x00\x00\x00\x00\x00\x00\x00\x00a", 16385, 0, ""), 24, api.ErrCommand},
		{raw(magic, "a", 16385, 0, ""), 24, api.ErrLength},
		{raw(magic, "abcdefghijkl", 1<<31, 0, ""), 24, api.ErrLength},
		{raw(magic, "a", math.MaxInt32, 0, ""), 24, api.ErrLength},
		{raw(magic, "a", math.MaxUint32, 0, ""), 24, api.ErrLength},
	}
	for at := range 4 {
		for _, s := range []string{good(api.Frame{Command: "a"}), badSum(api.Frame{Command: "a"}), raw(magic, "", math.MaxUint32, 0, "")} {
			b := []byte(s)
			b[at] ^= 0x10
			list = append(list, breaker{string(b), at + 1, api.ErrMagic})
		}
	}
	return list
}

// Promises 8.2 and 8.3: what breaks a stream, as soon as it shows; Broken tells it only since a Next did, and until then bytes are held and taken.
func TestBreaks(t *testing.T) {
	first := api.Frame{Command: "first", Payload: "frame"}
	for _, b := range breakers() {
		for _, ahead := range []string{"", good(first)} {
			x, m := started()
			m.feeds(t, x, ahead)
			m.asks(t, x)
			taken := x.Taken()
			for i := range b.shown {
				if _, _, e := m.asks(t, x); e != api.OK {
					t.Fatalf("%q broken behind %d bytes: %d", b.s, i, e)
				}
				m.feeds(t, x, b.s[i:i+1])
			}
			for range 2 {
				if x.Broken() != api.OK || x.Held() < b.shown || x.Need() != 0 {
					t.Fatalf("%q ahead of Next: Broken %d Held %d Need %d", b.s, x.Broken(), x.Held(), x.Need())
				}
				if n := m.feeds(t, x, "more"); n != 4 {
					t.Fatalf("ahead of Next, Feed took %d", n)
				}
			}
			if f, ok, e := m.asks(t, x); f != (api.Frame{}) || ok || e != b.want {
				t.Fatalf("%q: Next %q %v %d, not %d", b.s, f, ok, e, b.want)
			}
			stays(t, x, b.want, taken)
			stays(t, x.Clone(), b.want, taken)
		}
	}
}

// Promise 8.2: frames that stand ahead of what breaks the stream are told first.
func TestBreaksBehind(t *testing.T) {
	a := api.Frame{Command: "a", Payload: "x"}
	for _, b := range breakers() {
		x, m := started()
		m.feeds(t, x, good(a)+badSum(a)+good(a)+b.s+good(a))
		for _, want := range []api.Errno{api.OK, api.ErrSum, api.OK, b.want} {
			if _, ok, e := m.asks(t, x); ok != (want == api.OK) || e != want {
				t.Fatalf("Next %v %d, not %d", ok, e, want)
			}
		}
		stays(t, x, b.want, 2)
	}
}

// Promise 8.2: HeldMost bytes are held, and not one more; what is taken out makes room.
func TestHeldMost(t *testing.T) {
	f := api.Frame{Command: "long", Payload: strings.Repeat("l", 16384)}
	two := good(f) + good(f)
	if len(two) != api.HeldMost {
		t.Fatalf("two frames of the greatest kind have %d bytes", len(two))
	}
	for _, first := range []int{0, 1, 24, 16408, api.HeldMost - 1, api.HeldMost} {
		for _, more := range []string{"", "x", strings.Repeat("x", 24), good(f) + good(f)} {
			x, m := started()
			m.feeds(t, x, two[:first])
			if n := m.feeds(t, x, two[first:]+more); n != api.HeldMost-first {
				t.Fatalf("behind %d bytes Feed took %d", first, n)
			}
			if n := m.feeds(t, x, "y"); n != 0 || x.Held() != api.HeldMost {
				t.Fatalf("of a full one, Feed took %d, Held %d", n, x.Held())
			}
			m.asks(t, x)
			if n := m.feeds(t, x, two); n != 16408 {
				t.Fatalf("behind a frame that was taken, Feed took %d", n)
			}
			for range 2 {
				if got, ok, e := m.asks(t, x); got != f || !ok || e != api.OK {
					t.Fatalf("Next %.60q %v %d", got, ok, e)
				}
			}
			if x.Taken() != 3 || x.Held() != 0 {
				t.Fatalf("Taken %d Held %d", x.Taken(), x.Held())
			}
		}
	}
}

// Promise 8.2: a full stream that is to be broken is broken by Next, too.
func TestFullAndBroken(t *testing.T) {
	x, m := started()
	m.feeds(t, x, strings.Repeat("x", api.HeldMost+1))
	if x.Held() != api.HeldMost || x.Need() != 0 || x.Broken() != api.OK {
		t.Fatalf("Held %d Need %d Broken %d", x.Held(), x.Need(), x.Broken())
	}
	m.asks(t, x)
	stays(t, x, api.ErrMagic, 0)
}

// Promise 8.3: asking Held, Need, Broken and Taken changes nothing.
func TestAskingChangesNothing(t *testing.T) {
	s := good(api.Frame{Command: "a", Payload: "xyz"}) + "no"
	x, m := started()
	for i := range s {
		m.feeds(t, x, s[i:i+1])
		for range 3 {
			m.sameAs(t, x)
		}
	}
	m.asks(t, x)
	m.asks(t, x)
	stays(t, x, api.ErrMagic, 1)
}

// Rules R4 and R5: a frame that was told stays as it is, whatever is fed and taken behind it.
func TestFramesStay(t *testing.T) {
	lots := rand.New(rand.NewSource(84))
	x := New(magic)
	var want, got []api.Frame
	for range 300 {
		f := api.Frame{Command: "a", Payload: lotsOf(lots, lots.Intn(40))}
		want = append(want, f)
		x.Feed(good(f))
		g, _, _ := x.Next()
		got = append(got, g)
	}
	for i := range want {
		if want[i] != got[i] {
			t.Fatalf("frame %d became another one", i)
		}
	}
}
