package frame

import (
	"crypto/sha256"
	"encoding/binary"
	"math/rand"
	"strings"
	"testing"

	"bedrock/api"
)

// magic is that of most tests: its four bytes are unlike one another.
const magic = 0xd9b4bef9

// raw is the bytes of a frame, laid together without asking whether they may be.
func raw(magic uint32, command string, long, sum uint32, payload string) string {
	b := binary.LittleEndian.AppendUint32(nil, magic)
	b = append(b, command...)
	b = append(b, make([]byte, max(0, 12-len(command)))...)
	b = binary.LittleEndian.AppendUint32(b, long)
	b = binary.LittleEndian.AppendUint32(b, sum)
	return string(append(b, payload...))
}

// wantSum is the checksum of a payload, by the library.
func wantSum(payload string) uint32 {
	once := sha256.Sum256([]byte(payload))
	twice := sha256.Sum256(once[:])
	return binary.LittleEndian.Uint32(twice[:])
}

// good is the bytes of a frame that may be.
func good(f api.Frame) string {
	return raw(magic, f.Command, uint32(len(f.Payload)), wantSum(f.Payload), f.Payload)
}

// badSum is the bytes of a frame with another checksum.
func badSum(f api.Frame) string {
	return raw(magic, f.Command, uint32(len(f.Payload)), wantSum(f.Payload)^1, f.Payload)
}

// wantCommand is a command out of its 12 bytes, and whether it is one.
func wantCommand(twelve string) (string, bool) {
	command, behind := twelve, ""
	if at := strings.IndexByte(twelve, 0); at >= 0 {
		command, behind = twelve[:at], twelve[at:]
	}
	for _, b := range []byte(command) {
		if b <= ' ' || b >= 127 {
			return "", false
		}
	}
	return command, command != "" && strings.Trim(behind, "\x00") == ""
}

// wantDecode is the model of Decode.
func wantDecode(magic uint32, s string, at int) (api.Frame, int, api.Errno) {
	if at < 0 || at > len(s) {
		return api.Frame{}, 0, api.ErrArg
	}
	rest := []byte(s[at:])
	for i := range min(4, len(rest)) {
		if rest[i] != byte(magic>>(8*i)) {
			return api.Frame{}, 0, api.ErrMagic
		}
	}
	if len(rest) < 24 {
		return api.Frame{}, 0, api.ErrCut
	}
	command, is := wantCommand(string(rest[4:16]))
	long, sum := int64(binary.LittleEndian.Uint32(rest[16:])), binary.LittleEndian.Uint32(rest[20:])
	rest = rest[24:]
	switch {
	case !is:
		return api.Frame{}, 0, api.ErrCommand
	case long > 16384:
		return api.Frame{}, 0, api.ErrLength
	case long > int64(len(rest)):
		return api.Frame{}, 0, api.ErrCut
	case wantSum(string(rest[:long])) != sum:
		return api.Frame{}, 0, api.ErrSum
	}
	return api.Frame{Command: command, Payload: string(rest[:long])}, at + 24 + int(long), api.OK
}

// model is a stream as the chapter tells it, kept as one text.
type model struct {
	magic  uint32
	held   string
	broken api.Errno
	taken  int
}

// feed is the model of Feed.
func (m *model) feed(s string) int {
	if m.broken != api.OK {
		return 0
	}
	n := 0
	for n < len(s) && len(m.held)+n < 2*16384+48 {
		n++
	}
	m.held += s[:n]
	return n
}

// next is the model of Next.
func (m *model) next() (api.Frame, bool, api.Errno) {
	if m.broken != api.OK {
		return api.Frame{}, false, m.broken
	}
	f, behind, e := wantDecode(m.magic, m.held, 0)
	switch e {
	case api.OK:
		m.held = m.held[behind:]
		m.taken++
		return f, true, api.OK
	case api.ErrSum:
		m.held = m.held[24+int(binary.LittleEndian.Uint32([]byte(m.held[16:]))):]
	case api.ErrCut:
		return api.Frame{}, false, api.OK
	default:
		m.broken, m.held = e, ""
	}
	return api.Frame{}, false, e
}

// need is the model of Need: how many bytes must come until Decode does not call them cut.
func (m *model) need() int {
	if _, _, e := wantDecode(m.magic, m.held, 0); e != api.ErrCut || m.broken != api.OK {
		return 0
	}
	if len(m.held) < 24 {
		return 24 - len(m.held)
	}
	return 24 + int(binary.LittleEndian.Uint32([]byte(m.held[16:]))) - len(m.held)
}

// sameAs asks that a stream tells of itself what the model does.
func (m *model) sameAs(t *testing.T, x *Stream) {
	t.Helper()
	if x.Held() != len(m.held) || x.Need() != m.need() || x.Broken() != m.broken || x.Taken() != m.taken {
		t.Fatalf("Held %d Need %d Broken %d Taken %d, not %d %d %d %d", x.Held(), x.Need(), x.Broken(), x.Taken(), len(m.held), m.need(), m.broken, m.taken)
	}
}

// feeds feeds both, and asks that they do the same.
func (m *model) feeds(t *testing.T, x *Stream, s string) int {
	t.Helper()
	n, want := x.Feed(s), m.feed(s)
	if n != want {
		t.Fatalf("Feed of %d bytes: %d, not %d", len(s), n, want)
	}
	m.sameAs(t, x)
	return n
}

// asks asks both for the next frame once, and that they do the same.
func (m *model) asks(t *testing.T, x *Stream) (api.Frame, bool, api.Errno) {
	t.Helper()
	f, ok, e := x.Next()
	wantF, wantOK, wantE := m.next()
	if f != wantF || ok != wantOK || e != wantE {
		t.Fatalf("Next %.60q %v %d, not %.60q %v %d", f, ok, e, wantF, wantOK, wantE)
	}
	m.sameAs(t, x)
	return f, ok, e
}

// started is a stream and its model.
func started() (*Stream, *model) { return New(magic), &model{magic: magic} }

// lotsOf is n bytes by lots.
func lotsOf(lots *rand.Rand, n int) string {
	b := make([]byte, n)
	lots.Read(b)
	return string(b)
}

// lotFrame is a frame by lots, with a payload that is mostly short, and at times as long as may be.
func lotFrame(lots *rand.Rand) api.Frame {
	command := make([]byte, 1+lots.Intn(12))
	for i := range command {
		command[i] = byte(33 + lots.Intn(94))
	}
	long := lots.Intn(60)
	switch lots.Intn(12) {
	case 0:
		long = 0
	case 1:
		long = 16384
	case 2:
		long = lots.Intn(16385)
	}
	return api.Frame{Command: string(command), Payload: lotsOf(lots, long)}
}
