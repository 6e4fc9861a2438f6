package tx

import (
	"crypto/sha256"
	"encoding/binary"
	"math/rand"
	"reflect"
	"slices"
	"strings"
	"testing"

	"bedrock/api"
)

// count is a count's bytes, by the library's numbers in bytes.
func count(n int) string { return bigCount(uint64(n)) }

func bigCount(n uint64) string {
	switch {
	case n < 253:
		return string([]byte{byte(n)})
	case n < 1<<16:
		return string(binary.LittleEndian.AppendUint16([]byte{253}, uint16(n)))
	case n < 1<<32:
		return string(binary.LittleEndian.AppendUint32([]byte{254}, uint32(n)))
	}
	return string(binary.LittleEndian.AppendUint64([]byte{255}, n))
}

func four(n uint32) string { return string(binary.LittleEndian.AppendUint32(nil, n)) }

func eight(n uint64) string { return string(binary.LittleEndian.AppendUint64(nil, n)) }

// wantBytes is a transaction's bytes, whatever the limits.
func wantBytes(t api.Tx) string {
	s := four(t.Version) + count(len(t.Ins))
	for _, in := range t.Ins {
		s += string(in.Point.Tx[:]) + four(in.Point.Index) + count(len(in.Key)) + in.Key + four(in.Sequence)
	}
	s += count(len(t.Outs))
	for _, out := range t.Outs {
		s += eight(out.Value) + count(len(out.Lock)) + out.Lock
	}
	return s + four(t.Time)
}

// wantTold is the error of Encode.
func wantTold(t api.Tx) api.Errno {
	if slices.ContainsFunc(t.Ins, func(in api.In) bool { return len(in.Key) > 520 }) ||
		slices.ContainsFunc(t.Outs, func(out api.Out) bool { return len(out.Lock) > 520 }) {
		return api.ErrScript
	}
	if len(wantBytes(t)) > 4096 {
		return api.ErrSize
	}
	return api.OK
}

// walk goes along bytes by the chapter's words, and throws the error of the first part that is wrong.
type walk struct {
	rest string
	used int
}

func (w *walk) part(n int) string {
	if w.used+n > 4096 {
		panic(api.ErrSize)
	}
	if len(w.rest) < n {
		panic(api.ErrCut)
	}
	s := w.rest[:n]
	w.rest, w.used = w.rest[n:], w.used+n
	return s
}

func (w *walk) four() uint32 { return binary.LittleEndian.Uint32([]byte(w.part(4))) }

func (w *walk) eight() uint64 { return binary.LittleEndian.Uint64([]byte(w.part(8))) }

func (w *walk) count(most uint64, above api.Errno) int {
	for _, form := range []int{1, 3, 5, 9} {
		// A count that stands there in its shortest form is found by its value.
		if len(w.rest) < form {
			continue
		}
		n := uint64(w.rest[0])
		if form > 1 {
			n = binary.LittleEndian.Uint64([]byte(w.rest[1:form] + "\x00\x00\x00\x00\x00\x00")[:8])
		}
		if bigCount(n) != w.rest[:form] {
			continue
		}
		if n > most {
			panic(above)
		}
		w.part(form)
		return int(n)
	}
	form := 1
	if w.rest != "" {
		form = []int{3, 5, 9}[w.rest[0]-253]
	}
	w.part(form)
	panic(api.ErrForm)
}

// wantTake is Take by the chapter's words.
func wantTake(s string, at int) (t api.Tx, behind int, e api.Errno) {
	if at < 0 || at > len(s) {
		return api.Tx{}, 0, api.ErrArg
	}
	defer func() {
		if fault := recover(); fault != nil {
			t, behind, e = api.Tx{}, 0, fault.(api.Errno)
		}
	}()
	w := &walk{rest: s[at:]}
	t.Version = w.four()
	for range w.count(4096, api.ErrMore) {
		id := api.Hash([]byte(w.part(32)))
		place := w.four()
		key := w.part(w.count(520, api.ErrScript))
		t.Ins = append(t.Ins, api.In{Point: api.Point{Tx: id, Index: place}, Key: key, Sequence: w.four()})
	}
	for range w.count(4096, api.ErrMore) {
		value := w.eight()
		t.Outs = append(t.Outs, api.Out{Value: value, Lock: w.part(w.count(520, api.ErrScript))})
	}
	t.Time = w.four()
	return t, at + w.used, api.OK
}

// wantSame holds transactions against each other field by field; an empty list is as none.
func wantSame(a, b api.Tx) bool {
	for _, t := range []*api.Tx{&a, &b} {
		t.Ins = append([]api.In{}, t.Ins...)
		t.Outs = append([]api.Out{}, t.Outs...)
	}
	return reflect.DeepEqual(a, b)
}

// takes is Take, held against the model.
func takes(t *testing.T, s string, at int) (api.Tx, int, api.Errno) {
	t.Helper()
	got, behind, e := Take(s, at)
	want, wantBehind, wantE := wantTake(s, at)
	if !wantSame(got, want) || behind != wantBehind || e != wantE {
		t.Fatalf("Take(%.200q .., %d) of %d bytes: %d %d, not %d %d", s, at, len(s), behind, e, wantBehind, wantE)
	}
	if e == api.OK && wantBytes(got) != s[at:behind] {
		t.Fatalf("Take(%.200q .., %d): other bytes", s, at)
	}
	return got, behind, e
}

// decodes is Decode, held against the model.
func decodes(t *testing.T, s string) (api.Tx, api.Errno) {
	t.Helper()
	got, e := Decode(s)
	want, behind, wantE := wantTake(s, 0)
	if wantE == api.OK && behind != len(s) {
		want, wantE = api.Tx{}, api.ErrMore
	}
	if !wantSame(got, want) || e != wantE {
		t.Fatalf("Decode(%.200q ..) of %d bytes: %d, not %d", s, len(s), e, wantE)
	}
	return got, e
}

// refused is that bytes are none of a transaction, at the front and in the midst of others, and with nothing but the error.
func refused(t *testing.T, s string, want api.Errno) {
	t.Helper()
	for _, ahead := range []string{"", "x", strings.Repeat("\xff", 5000)} {
		got, behind, e := takes(t, ahead+s, len(ahead))
		if e != want || behind != 0 || !wantSame(got, api.Tx{}) {
			t.Errorf("Take of %d bytes that begin with %.60q behind %d: %d %d, not %d", len(s), s, len(ahead), behind, e, want)
		}
	}
	if got, e := decodes(t, s); e != want || !wantSame(got, api.Tx{}) {
		t.Errorf("Decode of %d bytes that begin with %.60q: %d, not %d", len(s), s, e, want)
	}
}

// digest is SHA-256 of SHA-256, by the library.
func digest(s string) api.Hash {
	once := sha256.Sum256([]byte(s))
	return sha256.Sum256(once[:])
}

// lotHash is a hash by lots.
func lotHash(lots *rand.Rand) api.Hash {
	var h api.Hash
	lots.Read(h[:])
	return h
}

// lotText is a text of at most most bytes by lots.
func lotText(lots *rand.Rand, most int) string {
	b := make([]byte, lots.Intn(most+1))
	lots.Read(b)
	return string(b)
}

// lotTx is a transaction by lots.
func lotTx(lots *rand.Rand, ins, outs, long int) api.Tx {
	t := api.Tx{Version: lots.Uint32(), Time: lots.Uint32()}
	for range ins {
		t.Ins = append(t.Ins, api.In{Point: api.Point{Tx: lotHash(lots), Index: lots.Uint32()}, Key: lotText(lots, long), Sequence: lots.Uint32()})
	}
	for range outs {
		t.Outs = append(t.Outs, api.Out{Value: lots.Uint64(), Lock: lotText(lots, long)})
	}
	return t
}

// null is a coinbase's point.
var null = api.Point{Index: 4294967295}

// point is a point that is like no other one with another number.
func point(n int) api.Point { return api.Point{Tx: api.Hash{0: 1, 31: byte(n)}, Index: uint32(n)} }

// plain is a transaction with so many inputs and outputs, of 1 each, and nothing wrong.
func plain(ins, outs int) api.Tx {
	t := api.Tx{Version: 1}
	for i := range ins {
		t.Ins = append(t.Ins, api.In{Point: point(i), Key: "k", Sequence: 7})
	}
	for range outs {
		t.Outs = append(t.Outs, api.Out{Value: 1, Lock: "l"})
	}
	return t
}

// sized is a transaction of just so many bytes, from 71 on, with nothing wrong but perhaps that.
func sized(n int) api.Tx {
	t := plain(1, 1)
	for n -= 62; n > 200; n -= 109 {
		t.Outs = append(t.Outs, api.Out{Value: 1, Lock: strings.Repeat("f", 100)})
	}
	t.Outs = append(t.Outs, api.Out{Value: 1, Lock: strings.Repeat("l", n-9)})
	return t
}
