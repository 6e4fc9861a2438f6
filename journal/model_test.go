package journal

import (
	"crypto/sha256"
	"encoding/binary"
	"maps"
	"slices"
	"strings"
	"testing"

	"bedrock/api"
	"bedrock/disk"
)

// wantSum is the first four bytes of the digest, by the library's sums.
func wantSum(s string) string {
	once := sha256.Sum256([]byte(s))
	twice := sha256.Sum256(once[:])
	return string(twice[:4])
}

func wantEight(n uint64) string { return string(binary.LittleEndian.AppendUint64(nil, n)) }

// wantRecord is a record's bytes, however long it is.
func wantRecord(epoch, number uint64, s string) string {
	body := string(binary.LittleEndian.AppendUint32(nil, uint32(len(s)))) + wantEight(number) + s
	return body + wantSum(wantEight(epoch)+body)
}

func wantHead(epoch uint64) string {
	return "bedrockj" + wantEight(epoch) + wantSum("bedrockj"+wantEight(epoch))
}

// wantFile is the bytes of a file with these records.
func wantFile(epoch uint64, l ...string) string {
	var s strings.Builder
	s.WriteString(wantHead(epoch))
	for i, x := range l {
		s.WriteString(wantRecord(epoch, uint64(i), x))
	}
	return s.String()
}

// state is what a disk tells of a journal's files.
type state struct {
	front   bool // there is a file with a front
	aside   bool // there is a file with .tmp
	epoch   uint64
	records []string
	torn    int // bytes behind the records
}

// model is a journal and its disk as states: a sure one, and one more for each loose change.
type model struct {
	states []state
	longs  []int // of each loose change: how many bytes of it must stay so that it is as though all did; 0, if that can't be
	made   int
	plan   []api.Fall
	torn   int // what the last open cut away
}

func newModel() *model { return &model{states: []state{{}}} }

func (m *model) now() state { return m.states[len(m.states)-1] }

// strikes is whether a fall of the plan strikes at this call, and does then what it does.
func (m *model) strikes(sync bool) bool {
	for i, f := range m.plan {
		if f.At == m.made && f.Sync == sync {
			m.plan = slices.Delete(slices.Clone(m.plan), i, i+1)
			m.fall(f.Keep, f.Torn)
			return true
		}
	}
	return false
}

func (m *model) fall(keep, torn int) {
	keep = min(max(keep, 0), len(m.longs))
	s := m.states[keep]
	if keep < len(m.longs) && torn > 0 && m.longs[keep] > 0 {
		if torn >= m.longs[keep] {
			s = m.states[keep+1]
		} else if s.front {
			s.torn = torn
		}
	}
	m.states, m.longs = []state{s}, nil
}

// change makes a change, or tells that the power failed at it.
func (m *model) change(long int, does func(s *state)) bool {
	if m.strikes(false) {
		return false
	}
	s := m.now()
	does(&s)
	m.states, m.longs, m.made = append(m.states, s), append(m.longs, long), m.made+1
	return true
}

func (m *model) sync() bool {
	if m.strikes(true) {
		return false
	}
	m.states, m.longs = []state{m.now()}, nil
	return true
}

func (m *model) tidy() bool {
	return !m.now().aside || m.change(0, func(s *state) { s.aside = false })
}

func (m *model) open() bool {
	m.torn = m.now().torn
	if !m.tidy() {
		return false
	}
	if !m.now().front {
		return m.change(20, func(s *state) { s.front = true }) && m.sync()
	}
	if m.torn > 0 {
		return m.change(0, func(s *state) { s.torn = 0 }) && m.sync()
	}
	return true
}

func (m *model) add(x string) bool {
	return m.change(16+len(x), func(s *state) { s.records = slices.Concat(s.records, []string{x}) })
}

func (m *model) cut(n int) bool {
	return m.change(0, func(s *state) { s.records = s.records[:n] })
}

func (m *model) renew(l []string) bool {
	return m.tidy() &&
		m.change(1, func(s *state) { s.aside = true }) && m.sync() &&
		m.change(0, func(s *state) { s.aside, s.epoch, s.records = false, s.epoch+1, l }) && m.sync()
}

// checkTells asks what a journal tells of itself.
func checkTells(t *testing.T, j *Journal, epoch uint64, records []string, torn int, dead bool) {
	t.Helper()
	if j == nil {
		t.Fatal("no journal")
	}
	if !slices.Equal(j.All(), records) || j.Len() != len(records) {
		t.Fatalf("All: %.80q, Len %d, not %.80q", j.All(), j.Len(), records)
	}
	for i, want := range records {
		if s, ok := j.Get(i); s != want || !ok {
			t.Fatalf("Get(%d): %.40q, %v", i, s, ok)
		}
	}
	for _, i := range []int{-1 << 63, -1, len(records), len(records) + 1, 1<<63 - 1} {
		if s, ok := j.Get(i); s != "" || ok {
			t.Fatalf("Get(%d) of %d: %.40q, %v", i, len(records), s, ok)
		}
	}
	size := 20
	for _, s := range records {
		size += 16 + len(s)
	}
	if j.Epoch() != epoch || j.Torn() != torn || j.Size() != size || j.Dead() != dead {
		t.Fatalf("Epoch %d, Torn %d, Size %d, Dead %v, not %d, %d, %d, %v", j.Epoch(), j.Torn(), j.Size(), j.Dead(), epoch, torn, size, dead)
	}
}

// checkFile asks for all bytes of a file.
func checkFile(t *testing.T, d *disk.Disk, name, want string) {
	t.Helper()
	if s, e := d.Read(name); s != want || e != api.OK {
		t.Fatalf("Read(%s): %.80q, %d, not %.80q", name, s, e, want)
	}
}

// checkNames asks which files a disk has.
func checkNames(t *testing.T, d *disk.Disk, want ...string) {
	t.Helper()
	if got := d.Names(); !slices.Equal(got, want) {
		t.Fatalf("Names: %q, not %q", got, want)
	}
}

// checkCounts asks how many changes were made, and how many are loose.
func checkCounts(t *testing.T, d *disk.Disk, made, loose int) {
	t.Helper()
	if d.Changes() != made || d.Loose() != loose {
		t.Fatalf("Changes %d, Loose %d, not %d, %d", d.Changes(), d.Loose(), made, loose)
	}
}

// look is all that a disk that is not dead tells.
type look struct {
	now, sure   map[string]string
	made, loose int
}

func lookAt(t *testing.T, d *disk.Disk) look {
	t.Helper()
	now := map[string]string{}
	for _, name := range d.Names() {
		s, e := d.Read(name)
		if e != api.OK {
			t.Fatal("Read", e)
		}
		now[name] = s
	}
	return look{now, d.Sure(), d.Changes(), d.Loose()}
}

// checkLook asks that nothing was changed on a disk.
func checkLook(t *testing.T, d *disk.Disk, was look) {
	t.Helper()
	is := lookAt(t, d)
	if !maps.Equal(is.now, was.now) || !maps.Equal(is.sure, was.sure) || is.made != was.made || is.loose != was.loose {
		t.Fatalf("the disk was changed: %d changes, %d loose, %.80q; ahead %d, %d, %.80q", is.made, is.loose, is.now, was.made, was.loose, was.now)
	}
}

// answers asks for an answer.
func answers(t *testing.T, got, want api.Errno) {
	t.Helper()
	if got != want {
		t.Fatalf("answered %d, not %d", got, want)
	}
}

// opens opens a journal.
func opens(t *testing.T, d *disk.Disk, name string) *Journal {
	t.Helper()
	j, e := Open(d, name)
	if j == nil || e != api.OK {
		t.Fatalf("Open(%s): %v, %d", name, j, e)
	}
	return j
}

// refuses asks that a journal is not opened.
func refuses(t *testing.T, d *disk.Disk, name string, want api.Errno) {
	t.Helper()
	if j, e := Open(d, name); j != nil || e != want {
		t.Fatalf("Open(%.40q): %v, %d, not %d", name, j, e, want)
	}
}

// adds adds records.
func adds(t *testing.T, j *Journal, l ...string) {
	t.Helper()
	for _, s := range l {
		answers(t, j.Add(s), api.OK)
	}
}

// holding is a disk with these bytes in the file j, all of it sure.
func holding(t *testing.T, s string) *disk.Disk {
	t.Helper()
	d := disk.New()
	answers(t, d.Write("j", 0, s), api.OK)
	answers(t, d.Sync(), api.OK)
	return d
}

// full writes small files until a disk has so many.
func full(t *testing.T, d *disk.Disk, files int) {
	t.Helper()
	for i := 0; len(d.Names()) < files; i++ {
		answers(t, d.Write("other-"+string(rune('a'+i%26))+string(rune('a'+i/26)), 0, "x"), api.OK)
	}
}
