package index

import (
	"crypto/sha256"
	"encoding/binary"
	"maps"
	"slices"
	"strings"
	"testing"

	"bedrock/api"
	"bedrock/block"
	"bedrock/disk"
	"bedrock/journal"
)

// wantBytes is an entry's bytes by the library's numbers, whether it may be or not.
func wantBytes(x api.Entry) string {
	low := binary.LittleEndian
	b := low.AppendUint32(nil, x.Header.Version)
	b = append(b, x.Header.Prev[:]...)
	b = append(b, x.Header.Root[:]...)
	for _, n := range []uint32{x.Header.Time, x.Header.Bits, x.Header.Nonce, uint32(x.Height)} {
		b = low.AppendUint32(b, n)
	}
	b = append(b, byte(x.State))
	for _, n := range []int{x.File, x.At, x.Long} {
		b = low.AppendUint32(b, uint32(n))
	}
	return string(b)
}

// idOf is the id of an entry's header by the library's sums.
func idOf(x api.Entry) api.Hash {
	once := sha256.Sum256([]byte(wantBytes(x)[:80]))
	return sha256.Sum256(once[:])
}

// find is the place of an id among entries, or -1.
func find(l []api.Entry, id api.Hash) int {
	return slices.IndexFunc(l, func(x api.Entry) bool { return idOf(x) == id })
}

// played is the entries of records, in the order in which their ids came first.
func played(records []api.Entry) []api.Entry {
	var l []api.Entry
	for _, x := range records {
		if i := find(l, idOf(x)); i >= 0 {
			l[i] = x
		} else {
			l = append(l, x)
		}
	}
	return l
}

// wantPut is what Put answers of an index with these entries, while its disk takes all.
func wantPut(l []api.Entry, x api.Entry) api.Errno {
	if x.Height < 0 || x.Height > 20000 || x.State < 0 || x.State > 15 || min(x.File, x.At, x.Long) < 0 || max(x.File, x.At, x.Long) >= 1<<31 {
		return api.ErrEntry
	}
	if i := find(l, idOf(x)); i >= 0 {
		if l[i].Height != x.Height {
			return api.ErrArg
		}
		return api.OK
	}
	if len(l) == 20001 {
		return api.ErrMany
	}
	if x.Height == 0 {
		return api.OK
	}
	if i := find(l, x.Header.Prev); i < 0 {
		return api.ErrPrev
	} else if l[i].Height+1 != x.Height {
		return api.ErrTall
	}
	return api.OK
}

// first is the entry of genesis.
func first() api.Entry { return api.Entry{Header: block.Genesis().Header} }

// on is an entry that stands on another one, told apart from others there by a nonce.
func on(x api.Entry, nonce uint32) api.Entry {
	return api.Entry{Header: api.Header{Version: 2, Prev: idOf(x), Time: 7, Nonce: nonce}, Height: x.Height + 1}
}

// alone is an entry of height 0 that is not genesis.
func alone(nonce uint32) api.Entry {
	return api.Entry{Header: api.Header{Prev: api.Hash{1, 2, 3}, Nonce: nonce}}
}

// with is an entry in another state, its body somewhere else.
func with(x api.Entry, state int) api.Entry {
	x.State, x.File, x.At, x.Long = state, state+1, 100*state, 10+state
	return x
}

// tall is an entry with another height.
func tall(x api.Entry, height int) api.Entry {
	x.Height = height
	return x
}

// row is so many entries that stand on one another, from genesis on.
func row(n int) []api.Entry {
	l := make([]api.Entry, n)
	for i := range l {
		if i == 0 {
			l[i] = first()
		} else {
			l[i] = on(l[i-1], uint32(i))
		}
	}
	return l
}

// texts is the bytes of entries.
func texts(l []api.Entry) []string {
	out := make([]string, len(l))
	for i, x := range l {
		out[i] = wantBytes(x)
	}
	return out
}

// wantFile is the bytes of a journal with these records.
func wantFile(t *testing.T, epoch uint64, l ...string) string {
	t.Helper()
	var s strings.Builder
	s.WriteString(journal.Head(epoch))
	for i, x := range l {
		record, e := journal.Record(epoch, uint64(i), x)
		answers(t, e, api.OK)
		s.WriteString(record)
	}
	return s.String()
}

// holding is a disk with a journal of these records in the file i, all of it sure.
func holding(t *testing.T, epoch uint64, l ...string) *disk.Disk {
	t.Helper()
	d := disk.New()
	answers(t, d.Write("i", 0, wantFile(t, epoch, l...)), api.OK)
	answers(t, d.Sync(), api.OK)
	return d
}

// began is an index with a record for each of these entries, all of them sure.
func began(t *testing.T, l ...api.Entry) (*disk.Disk, *Index) {
	t.Helper()
	d := holding(t, 0, texts(l)...)
	return d, opens(t, d, len(l))
}

// opens opens an index, and asks how many records it has.
func opens(t *testing.T, d *disk.Disk, records int) *Index {
	t.Helper()
	x, n, e := Open(d, "i")
	if x == nil || n != records || e != api.OK {
		t.Fatalf("Open: %v, %d, %d, not %d records", x != nil, n, e, records)
	}
	return x
}

// refuses asks that an index is not opened.
func refuses(t *testing.T, d *disk.Disk, name string, want api.Errno) {
	t.Helper()
	if x, n, e := Open(d, name); x != nil || n != 0 || e != want {
		t.Fatalf("Open(%.40q): %v, %d, %d, not %d", name, x != nil, n, e, want)
	}
}

// puts puts entries.
func puts(t *testing.T, x *Index, l ...api.Entry) {
	t.Helper()
	for _, e := range l {
		answers(t, x.Put(e), api.OK)
	}
}

// answers asks for an answer.
func answers(t *testing.T, got, want api.Errno) {
	t.Helper()
	if got != want {
		t.Fatalf("answered %d, not %d", got, want)
	}
}

// checkTells asks what an index tells of itself.
func checkTells(t *testing.T, x *Index, l []api.Entry, records, loose int) {
	t.Helper()
	if !slices.Equal(x.All(), l) || x.Len() != len(l) {
		t.Fatalf("All: %v, Len %d, not %v", x.All(), x.Len(), l)
	}
	for _, want := range l {
		if got, ok := x.Get(idOf(want)); got != want || !ok {
			t.Fatalf("Get: %v, %v, not %v", got, ok, want)
		}
	}
	for _, id := range []api.Hash{{}, {1, 2, 3}, idOf(alone(4000))} {
		if got, ok := x.Get(id); got != (api.Entry{}) || ok {
			t.Fatalf("Get of nothing: %v, %v", got, ok)
		}
	}
	if x.Records() != records || x.Loose() != loose {
		t.Fatalf("Records %d, Loose %d, not %d, %d", x.Records(), x.Loose(), records, loose)
	}
}

// look is all that a disk that is not dead tells.
type look struct {
	now, sure   map[string]string
	made, loose int
}

func lookAt(t *testing.T, d *disk.Disk) look {
	t.Helper()
	now := map[string]string{}
	for _, name := range d.Names() {
		s, e := d.Read(name)
		answers(t, e, api.OK)
		now[name] = s
	}
	return look{now, d.Sure(), d.Changes(), d.Loose()}
}

// checkLook asks that nothing was changed on a disk.
func checkLook(t *testing.T, d *disk.Disk, was look) {
	t.Helper()
	is := lookAt(t, d)
	if !maps.Equal(is.now, was.now) || !maps.Equal(is.sure, was.sure) || is.made != was.made || is.loose != was.loose {
		t.Fatalf("the disk was changed: %d changes, %d loose; ahead %d, %d", is.made, is.loose, was.made, was.loose)
	}
}

// checkFile asks for the file i, that it is the only one, and whether all of it is sure.
func checkFile(t *testing.T, d *disk.Disk, epoch uint64, sure bool, l ...string) {
	t.Helper()
	want := wantFile(t, epoch, l...)
	if s, e := d.Read("i"); s != want || e != api.OK || len(d.Names()) != 1 {
		t.Fatalf("the file has %d bytes, not %d, %d, of %q", len(s), len(want), e, d.Names())
	}
	if (d.Sure()["i"] == want && d.Loose() == 0) != sure {
		t.Fatalf("the file is not as sure as it should be: %d loose", d.Loose())
	}
}
