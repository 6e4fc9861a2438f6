package frame

import (
	"math/rand"
	"slices"
	"testing"

	"bedrock/api"
)

// drain asks for frames until none is told, and lays them behind those that were told; other checksums are told as frames of zeros.
func drain(t *testing.T, x *Stream, told []api.Frame) []api.Frame {
	t.Helper()
	for {
		f, ok, e := x.Next()
		switch {
		case ok && e == api.OK, !ok && e == api.ErrSum:
			told = append(told, f)
		case !ok && e == api.OK:
			return told
		default:
			t.Fatalf("Next %.60q %v %d", f, ok, e)
		}
	}
}

// row is frames by lots, some with another checksum, and what is to be told of them.
func row(lots *rand.Rand, n int) (string, []api.Frame) {
	var s []byte
	var told []api.Frame
	for range n {
		f := lotFrame(lots)
		if lots.Intn(5) == 0 {
			s, told = append(s, badSum(f)...), append(told, api.Frame{})
		} else {
			s, told = append(s, good(f)...), append(told, f)
		}
	}
	return string(s), told
}

// Promise 8.5: frames cut at each place into two parts.
func TestTwoParts(t *testing.T) {
	want := []api.Frame{{Command: "version", Payload: "v"}, {}, {Command: "verack"}, {Command: "abcdefghijkl", Payload: "12345678"}}
	s := good(want[0]) + badSum(api.Frame{Command: "bad", Payload: "b"}) + good(want[2]) + good(want[3])
	for n := range len(s) + 1 {
		x := New(magic)
		var told []api.Frame
		for _, part := range []string{s[:n], s[n:]} {
			if x.Feed(part) != len(part) {
				t.Fatalf("Feed of %d bytes", len(part))
			}
			told = drain(t, x, told)
		}
		if !slices.Equal(told, want) || x.Taken() != 3 || x.Held() != 0 {
			t.Fatalf("cut at %d: %q, Taken %d Held %d", n, told, x.Taken(), x.Held())
		}
	}
}

// Promise 8.5: the same frames, however they are cut: byte by byte, in parts of one length, by lots; each part is taken whole.
func TestParts(t *testing.T) {
	lots := rand.New(rand.NewSource(851))
	for range 12 {
		s, want := row(lots, 40)
		for _, most := range []int{1, 2, 23, 24, 25, 1000, 16384, 16408, 0} {
			x := New(magic)
			var told []api.Frame
			for at := 0; at < len(s); {
				n := most
				if n == 0 {
					n = lots.Intn(16409)
				}
				n = min(n, len(s)-at)
				if x.Feed(s[at:at+n]) != n {
					t.Fatalf("a part of %d bytes was not taken whole", n)
				}
				at += n
				told = drain(t, x, told)
			}
			if !slices.Equal(told, want) || x.Held() != 0 {
				t.Fatalf("in parts of %d: %d frames, not %d; Held %d", most, len(told), len(want), x.Held())
			}
		}
	}
}

// Promises 8.2 and 8.5: a stream that is fed more than it takes, as often as it takes it, tells the same frames.
func TestMoreThanItTakes(t *testing.T) {
	lots := rand.New(rand.NewSource(852))
	s, want := row(lots, 120)
	if len(s) < 3*api.HeldMost {
		t.Fatalf("%d bytes are too few", len(s))
	}
	x := New(magic)
	var told []api.Frame
	for at := 0; at < len(s); {
		n := x.Feed(s[at:])
		if left := len(s) - at; n < min(left, api.MaxPayload+api.FrameHead) || n > api.HeldMost {
			t.Fatalf("Feed took %d", n)
		}
		at += n
		told = drain(t, x, told)
	}
	if !slices.Equal(told, want) {
		t.Fatalf("%d frames, not %d", len(told), len(want))
	}
}

// Promises 8.2 and 8.3: streams by lots, with bytes changed by lots, fed by lots beyond what they take, against the model at each step.
func TestStreamsByLots(t *testing.T) {
	for seed := range int64(150) {
		lots := rand.New(rand.NewSource(seed))
		s, _ := row(lots, 12)
		b := []byte(s)
		for range lots.Intn(3) {
			b[lots.Intn(len(b))] ^= 1 << lots.Intn(8)
		}
		rest := string(b)
		x, m := started()
		for range 120 {
			if lots.Intn(3) > 0 {
				m.asks(t, x)
				continue
			}
			n := lots.Intn(1 + min(len(rest), []int{3, 30, 3000, 40000}[lots.Intn(4)]))
			rest = rest[m.feeds(t, x, rest[:n]):]
		}
	}
}
