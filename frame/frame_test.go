package frame

import (
	"math"
	"math/rand"
	"strings"
	"testing"

	"bedrock/api"
)

// decodes asks that Decode answers what the model does, and is handed out whole or not at all.
func decodes(t *testing.T, magic uint32, s string, at int) api.Errno {
	t.Helper()
	f, behind, e := Decode(magic, s, at)
	wantF, wantBehind, wantE := wantDecode(magic, s, at)
	if f != wantF || behind != wantBehind || e != wantE {
		t.Fatalf("Decode(%.60q, %d): %.60q %d %d, not %.60q %d %d", s, at, f, behind, e, wantF, wantBehind, wantE)
	}
	return e
}

// Promise 8.1 and the chapter's example.
func TestExample(t *testing.T) {
	want := "\xf9\xbe\xb4\xd9verack\x00\x00\x00\x00\x00\x00\x00\x00\x00\x00\x5d\xf6\xe0\xe2"
	s, e := Encode(0xd9b4bef9, api.Frame{Command: "verack"})
	if s != want || e != api.OK {
		t.Fatalf("Encode %q %d", s, e)
	}
	if f, behind, e := Decode(0xd9b4bef9, s, 0); f != (api.Frame{Command: "verack"}) || behind != 24 || e != api.OK {
		t.Fatalf("Decode %q %d %d", f, behind, e)
	}
	if f, behind, e := Decode(0xd9b4bef9, s[:23], 0); f != (api.Frame{}) || behind != 0 || e != api.ErrCut {
		t.Fatalf("Decode of all but the last byte %q %d %d", f, behind, e)
	}
	if f, behind, e := Decode(0xd9b4bef9, s[:2]+"\xb5"+s[3:], 0); f != (api.Frame{}) || behind != 0 || e != api.ErrMagic {
		t.Fatalf("Decode with another third byte %q %d %d", f, behind, e)
	}
}

// Promise 8.1: the checksum, and its order of bytes.
func TestSum(t *testing.T) {
	if n := Sum(""); n != 0xe2e0f65d {
		t.Errorf("Sum of nothing: %x", n)
	}
	lots := rand.New(rand.NewSource(81))
	for long := range 300 {
		s := lotsOf(lots, long)
		if n := Sum(s); n != wantSum(s) {
			t.Fatalf("Sum(%.60q): %x, not %x", s, n, wantSum(s))
		}
	}
	long := strings.Repeat("x", api.MaxPayload+1)
	if n := Sum(long); n != wantSum(long) {
		t.Errorf("Sum of more than a payload may have: %x", n)
	}
}

// Promise 8.1: how long a command is.
func TestCommandLong(t *testing.T) {
	for n := range 40 {
		if is := Command(strings.Repeat("a", n)); is != (n >= 1 && n <= 12) {
			t.Errorf("Command of %d bytes: %v", n, is)
		}
	}
	if Command(strings.Repeat("a", 1<<16+1)) || Command(strings.Repeat("\xc3\xa4", 6)) {
		t.Error("Command of what is none")
	}
}

// Promise 8.1: of what bytes a command is, at each place of it.
func TestCommandBytes(t *testing.T) {
	for b := range 256 {
		may := b >= 33 && b <= 126
		for long := 1; long <= 12; long++ {
			for at := range long {
				s := strings.Repeat("a", at) + string([]byte{byte(b)}) + strings.Repeat("z", long-at-1)
				if Command(s) != may {
					t.Fatalf("Command(%q) is not %v", s, may)
				}
				if _, e := Encode(magic, api.Frame{Command: s}); (e == api.OK) != may || (e == api.ErrCommand) == may {
					t.Fatalf("Encode of %q: %d", s, e)
				}
			}
		}
	}
}

// Promise 8.1: what Encode lays down, with commands and payloads of each length that is an edge.
func TestEncode(t *testing.T) {
	for _, command := range []string{"a", "!", "~", "verack", "abcdefghijk", "abcdefghijkl"} {
		for _, long := range []int{0, 1, 2, 252, 253, 255, 256, 257, 16383, 16384} {
			for _, m := range []uint32{0, 1, magic, 0x01020304, math.MaxUint32} {
				payload := strings.Repeat("\x00\xff", long)[:long]
				s, e := Encode(m, api.Frame{Command: command, Payload: payload})
				if want := raw(m, command, uint32(long), wantSum(payload), payload); s != want || e != api.OK {
					t.Fatalf("Encode of %q and %d bytes: %.60q %d", command, long, s, e)
				}
			}
		}
	}
}

// Promise 8.1: what Encode refuses, a command ahead of a length, and rule R2: it answers nothing beside.
func TestEncodeRefuses(t *testing.T) {
	most := strings.Repeat("p", 16384)
	for _, x := range []struct {
		command, payload string
		want             api.Errno
	}{
		{"", "", api.ErrCommand},
		{"", most + "p", api.ErrCommand},
		{"abcdefghijklm", "", api.ErrCommand},
		{"abcdefghijklm", most + "p", api.ErrCommand},
		{"a\x00", "x", api.ErrCommand},
		{"\x00", most + "p", api.ErrCommand},
		{" a", "", api.ErrCommand},
		{"a\x7f", "", api.ErrCommand},
		{"abcdefghijkl", most + "p", api.ErrLength},
		{"a", most + "p", api.ErrLength},
		{"a", most + most, api.ErrLength},
	} {
		if s, e := Encode(magic, api.Frame{Command: x.command, Payload: x.payload}); s != "" || e != x.want {
			t.Errorf("Encode of %q and %d bytes: %.60q %d, not %d", x.command, len(x.payload), s, e, x.want)
		}
	}
}

// Promise 8.1: places below 0, at each byte, at the end and beyond it.
func TestDecodePlaces(t *testing.T) {
	f := api.Frame{Command: "ping", Payload: "12345678"}
	s := "ahead" + good(f) + "behind"
	for at := -3; at <= len(s)+3; at++ {
		decodes(t, magic, s, at)
	}
	if got, behind, e := Decode(magic, s, 5); got != f || behind != 37 || e != api.OK {
		t.Errorf("Decode %q %d %d", got, behind, e)
	}
	for at, want := range map[int]api.Errno{-1: api.ErrArg, len(s) + 1: api.ErrArg, len(s): api.ErrCut, 0: api.ErrMagic, math.MaxInt: api.ErrArg, math.MinInt: api.ErrArg} {
		if e := decodes(t, magic, s, at); e != want {
			t.Errorf("Decode at %d: %d, not %d", at, e, want)
		}
	}
	if decodes(t, magic, "", 0) != api.ErrCut || decodes(t, magic, "", 1) != api.ErrArg || decodes(t, magic, "", -1) != api.ErrArg {
		t.Error("Decode of nothing")
	}
}

// Promise 8.1: every beginning of a frame is cut, whatever is ahead of it.
func TestDecodeCut(t *testing.T) {
	for _, f := range []api.Frame{{Command: "verack"}, {Command: "ping", Payload: "12345678"}, {Command: "abcdefghijkl", Payload: strings.Repeat("\x00", 300)}} {
		s := good(f)
		for n := range s {
			if e := decodes(t, magic, s[:n], 0); e != api.ErrCut {
				t.Fatalf("%d bytes of %q: %d", n, f.Command, e)
			}
			if e := decodes(t, magic, "x"+s[:n], 1); e != api.ErrCut {
				t.Fatalf("%d bytes of %q behind another one: %d", n, f.Command, e)
			}
		}
		if decodes(t, magic, s, 0) != api.OK || decodes(t, magic, s+s, len(s)) != api.OK {
			t.Fatalf("%q", f.Command)
		}
	}
}

// Promise 8.1: each byte of the magic that is another one is told as soon as it is there, ahead of all else.
func TestDecodeMagic(t *testing.T) {
	for _, s := range []string{good(api.Frame{Command: "a", Payload: "xyz"}), badSum(api.Frame{Command: "a", Payload: "xyz"}), raw(magic, "", math.MaxUint32, 0, ""), raw(magic, "a", 16385, 0, "")} {
		for at := range 4 {
			for bit := range 8 {
				b := []byte(s)
				b[at] ^= 1 << bit
				for n := range len(b) + 1 {
					if e := decodes(t, magic, string(b[:n]), 0); (e == api.ErrMagic) != (n > at) {
						t.Fatalf("%d bytes with another byte %d: %d", n, at, e)
					}
				}
			}
		}
	}
	s := good(api.Frame{Command: "a"})
	for _, m := range []uint32{0, 1, magic + 1, magic ^ 1<<31, 0xf9beb4d9, math.MaxUint32} {
		if e := decodes(t, m, s, 0); e != api.ErrMagic {
			t.Errorf("with the magic %x: %d", m, e)
		}
		if e := decodes(t, m, raw(m, "a", 0, wantSum(""), ""), 0); e != api.OK {
			t.Errorf("of the magic %x: %d", m, e)
		}
	}
}

// Promise 8.1: the bytes of the command, each of them at each place, and bytes behind a byte 0; ahead of the length, of the payload's end and of the checksum.
func TestDecodeCommand(t *testing.T) {
	for b := range 256 {
		for at := range 12 {
			for _, begun := range []string{"abcdefghijkl", "abcdef", "a", ""} {
				twelve := []byte(raw(0, begun, 0, 0, "")[4:16])
				twelve[at] = byte(b)
				may := decodes(t, magic, raw(magic, string(twelve), 0, wantSum(""), ""), 0) == api.OK
				if _, want := wantCommand(string(twelve)); may != want {
					t.Fatalf("%q as a command: %v", twelve, may)
				}
				if e := decodes(t, magic, raw(magic, string(twelve), math.MaxUint32, 0, ""), 0); (e == api.ErrCommand) == may {
					t.Fatalf("%q as a command with another length: %d", twelve, e)
				}
			}
		}
	}
	for twelve, want := range map[string]api.Errno{
		"\x00\x00\x00\x00\x00\x00\x00\x00\x00\x00\x00\x00": api.ErrCommand,
		"\x00aaaaaaaaaaa": api.ErrCommand,
		"aaaaaaaaaa\x00a": api.ErrCommand,
		"aaaaaaaaaaa\x00": api.ErrCut,
		"a\x00\x00\x00\x00\x00\x00\x00\x00\x00\x00\x01": api.ErrCommand,
		"a\x00\x00\x00\x00\x00\x00\x00\x00\x00\x00\x00": api.ErrCut,
		"aaaa aaaaaaa": api.ErrCommand,
	} {
		if e := decodes(t, magic, raw(magic, twelve, 2, 0, "x"), 0); e != want {
			t.Errorf("%q as a command: %d, not %d", twelve, e, want)
		}
	}
}

// Promise 8.1: lengths up to MaxPayload and beyond, also beyond what an int32 holds; ahead of the payload's end and of the checksum.
func TestDecodeLength(t *testing.T) {
	most := strings.Repeat("p", 16384)
	for long, want := range map[uint32]api.Errno{0: api.OK, 1: api.OK, 16383: api.OK, 16384: api.OK, 16385: api.ErrLength, 32768: api.ErrLength, 65536: api.ErrLength, 1 << 24: api.ErrLength, math.MaxInt32: api.ErrLength, 1 << 31: api.ErrLength, 1<<31 + 1: api.ErrLength, math.MaxUint32 - 23: api.ErrLength, math.MaxUint32: api.ErrLength} {
		payload := (most + most)[:min(long, 16385)]
		if e := decodes(t, magic, raw(magic, "a", long, wantSum(payload), payload)+"behind", 0); e != want {
			t.Errorf("with a payload of %d bytes: %d, not %d", long, e, want)
		}
		if e := decodes(t, magic, raw(magic, "a", long, 0, ""), 0); want == api.ErrLength && e != want || long == 1 && e != api.ErrCut {
			t.Errorf("with the length %d and no payload: %d", long, e)
		}
	}
}

// Promise 8.1: another checksum is told last, of each bit of the payload and of the checksum.
func TestDecodeSum(t *testing.T) {
	s := good(api.Frame{Command: "a", Payload: "payload"})
	for at := 20; at < len(s); at++ {
		for bit := range 8 {
			b := []byte(s)
			b[at] ^= 1 << bit
			if e := decodes(t, magic, string(b), 0); e != api.ErrSum {
				t.Fatalf("with another byte %d: %d", at, e)
			}
			if e := decodes(t, magic, string(b[:len(b)-1]), 0); e != api.ErrCut {
				t.Fatalf("with another byte %d, and cut: %d", at, e)
			}
		}
	}
}

// Promises 8.1 and 8.5: Decode of Encode is the frame, at any place, with anything behind it.
func TestThereAndBack(t *testing.T) {
	lots := rand.New(rand.NewSource(85))
	for range 400 {
		f, m := lotFrame(lots), lots.Uint32()
		s, e := Encode(m, f)
		if e != api.OK {
			t.Fatalf("Encode of %.60q: %d", f, e)
		}
		ahead := lotsOf(lots, lots.Intn(9))
		got, behind, e := Decode(m, ahead+s+lotsOf(lots, lots.Intn(9)), len(ahead))
		if got != f || behind != len(ahead)+len(s) || e != api.OK {
			t.Fatalf("Decode of Encode: %.60q %d %d, not %.60q", got, behind, e, f)
		}
	}
}

// Promise 8.1: bytes by lots, and frames with some bytes changed by lots, against the model.
func TestDecodeOfAnything(t *testing.T) {
	lots := rand.New(rand.NewSource(811))
	for range 20000 {
		b := []byte(good(api.Frame{Command: "command"[:1+lots.Intn(7)], Payload: lotsOf(lots, lots.Intn(20))}))
		for range lots.Intn(4) {
			b[lots.Intn(len(b))] = byte(lots.Intn(256) * lots.Intn(2))
		}
		decodes(t, magic, string(b[:lots.Intn(len(b)+1)]), lots.Intn(3)*lots.Intn(2))
		decodes(t, magic, string(b), 0)
		decodes(t, lots.Uint32(), lotsOf(lots, lots.Intn(40)), lots.Intn(42)-1)
	}
}
