package store

import (
	"crypto/sha256"
	"encoding/binary"
	"maps"
	"slices"
	"strconv"
	"testing"

	"bedrock/api"
	"bedrock/disk"
)

// headOf is what stands ahead of a body in a record whose head tells so many bytes, by the library's sums.
func headOf(long uint32, body string) string {
	four := string(binary.LittleEndian.AppendUint32(nil, long))
	once := sha256.Sum256([]byte(four + body))
	twice := sha256.Sum256(once[:])
	return "body" + four + string(twice[:4])
}

// wantRecord is the record of a body however long it is.
func wantRecord(body string) string { return headOf(uint32(len(body)), body) + body }

// wantFile is the bytes of a file with the records of these bodies.
func wantFile(bodies ...string) string {
	s := ""
	for _, body := range bodies {
		s += wantRecord(body)
	}
	return s
}

// wantBody is the body of the record that stands at a place of a file's bytes, empty if none does.
func wantBody(file string, at int) string {
	if at < 0 || at > len(file)-13 {
		return ""
	}
	long := uint64(binary.LittleEndian.Uint32([]byte(file[at+4 : at+8])))
	if long < 1 || long > 8192 || long > uint64(len(file)-at-12) {
		return ""
	}
	body := file[at+12 : at+12+int(long)]
	if file[at:at+12+int(long)] != wantRecord(body) {
		return ""
	}
	return body
}

// wantScan is where the bodies of a file stand, and how many bytes are left.
func wantScan(file int, s string) ([]api.Pos, int) {
	var l []api.Pos
	at := 0
	for body := wantBody(s, at); body != ""; body = wantBody(s, at) {
		l = append(l, api.Pos{File: file, At: at, Long: len(body)})
		at += 12 + len(body)
	}
	return l, len(s) - at
}

// state is the bytes of a store's files by their numbers.
type state map[int]string

// change is one of a store's changes: to what it leads, and, of one that can be torn, what is written behind which file.
type change struct {
	to   state
	file int
	tail string
}

// model is a store and its disk: what is sure, and the loose changes behind it.
type model struct {
	most  int
	sure  state
	loose []change
	made  int
	plan  []api.Fall
	torn  int // what the last open cut away
}

func newModel(most int) *model { return &model{most: most, sure: state{}} }

func (m *model) now() state {
	if len(m.loose) == 0 {
		return m.sure
	}
	return m.loose[len(m.loose)-1].to
}

// last is the number of the last file, -1 if there is none.
func (m *model) last() int {
	last := -1
	for n := range m.now() {
		last = max(last, n)
	}
	return last
}

func (m *model) strikes(sync bool) bool {
	for i, f := range m.plan {
		if f.At == m.made && f.Sync == sync {
			m.plan = slices.Delete(slices.Clone(m.plan), i, i+1)
			m.fall(f.Keep, f.Torn)
			return true
		}
	}
	return false
}

func (m *model) fall(keep, torn int) {
	keep = min(max(keep, 0), len(m.loose))
	s := m.sure
	if keep > 0 {
		s = m.loose[keep-1].to
	}
	if keep < len(m.loose) && torn > 0 && m.loose[keep].tail != "" {
		next := m.loose[keep]
		s = maps.Clone(s)
		s[next.file] += next.tail[:min(torn, len(next.tail))]
	}
	m.sure, m.loose = s, nil
}

// change makes a change, or tells that the power failed at it.
func (m *model) change(file int, tail string, does func(s state)) api.Errno {
	if m.strikes(false) {
		return api.ErrDead
	}
	to := maps.Clone(m.now())
	does(to)
	m.loose, m.made = append(m.loose, change{to, file, tail}), m.made+1
	return api.OK
}

func (m *model) sync() api.Errno {
	if m.strikes(true) {
		return api.ErrDead
	}
	m.sure, m.loose = m.now(), nil
	return api.OK
}

func (m *model) open() api.Errno {
	m.torn = 0
	last := m.last()
	_, left := wantScan(last, m.now()[last])
	if left == 0 {
		return api.OK
	}
	e := m.change(last, "", func(s state) { s[last] = s[last][:len(s[last])-left] })
	if e == api.OK {
		e = m.sync()
	}
	if e == api.OK {
		m.torn = left
	}
	return e
}

func (m *model) put(body string) (api.Pos, api.Errno) {
	if body == "" || len(body) > 8192 {
		return api.Pos{}, api.ErrNoBody
	}
	n, record := m.last(), wantRecord(body)
	if n < 0 || len(m.now()[n])+len(record) > m.most {
		n++
	}
	if n > 31 {
		return api.Pos{}, api.ErrStore
	}
	p := api.Pos{File: n, At: len(m.now()[n]), Long: len(body)}
	if e := m.change(n, record, func(s state) { s[n] += record }); e != api.OK {
		return api.Pos{}, e
	}
	return p, api.OK
}

func (m *model) prune(n int) api.Errno {
	if _, there := m.now()[n]; !there || n == m.last() {
		return api.ErrPos
	}
	return m.change(n, "", func(s state) { delete(s, n) })
}

// checkTells asks what a store tells of these files, when the power is on.
func checkTells(t *testing.T, s *Store, want state, torn int) {
	t.Helper()
	size := 0
	for _, file := range want {
		size += len(file)
	}
	if got := s.Files(); !slices.Equal(got, slices.Sorted(maps.Keys(want))) {
		t.Fatalf("Files: %d, not %d", got, slices.Sorted(maps.Keys(want)))
	}
	if s.Size() != size || s.Torn() != torn {
		t.Fatalf("Size %d, Torn %d, not %d, %d", s.Size(), s.Torn(), size, torn)
	}
	for n := -1; n <= 33; n++ {
		file, there := want[n]
		checkScan(t, s, n, file, there)
	}
}

// checkScan asks where the bodies of a file stand, and for each of them.
func checkScan(t *testing.T, s *Store, n int, file string, there bool) {
	t.Helper()
	got, left, e := s.Scan(n)
	if !there {
		if got != nil || left != 0 || e != api.ErrPos {
			t.Fatalf("Scan(%d) of none: %v, %d, %d", n, got, left, e)
		}
		gets(t, s, api.Pos{File: n, Long: 1}, "", api.ErrPos)
		return
	}
	want, wantLeft := wantScan(n, file)
	if !slices.Equal(got, want) || left != wantLeft || e != api.OK {
		t.Fatalf("Scan(%d): %v, %d, %d, not %v, %d", n, got, left, e, want, wantLeft)
	}
	for _, p := range want {
		gets(t, s, p, wantBody(file, p.At), api.OK)
	}
}

// checkDead asks what a store tells when the power is off, and these files stayed.
func checkDead(t *testing.T, s *Store, d *disk.Disk, want state, torn int) {
	t.Helper()
	if !d.Dead() {
		t.Fatal("the power is on")
	}
	files := slices.Sorted(maps.Keys(want))
	if got := s.Files(); !slices.Equal(got, files) || s.Size() != 0 || s.Torn() != torn {
		t.Fatalf("dead: Files %d, Size %d, Torn %d, not %d, 0, %d", got, s.Size(), s.Torn(), files, torn)
	}
	for n := -1; n <= 33; n++ {
		if l, left, e := s.Scan(n); l != nil || left != 0 || e != api.ErrDead {
			t.Fatalf("dead: Scan(%d): %v, %d, %d", n, l, left, e)
		}
		gets(t, s, api.Pos{File: n, Long: 1}, "", api.ErrDead)
		wantPrune := api.ErrDead
		if !slices.Contains(files, n) || n == files[len(files)-1] {
			wantPrune = api.ErrPos
		}
		answers(t, s.Prune(n), wantPrune)
	}
	answers(t, s.Flush(), api.ErrDead)
	puts(t, s, "", api.Pos{}, api.ErrNoBody)
	puts(t, s, "b", api.Pos{}, api.ErrDead)
}

// checkDisk asks that a disk has these files of the store blk and no others.
func checkDisk(t *testing.T, d *disk.Disk, want state) {
	t.Helper()
	names := []string{}
	for n, file := range want {
		name := "blk-" + strconv.Itoa(n)
		names = append(names, name)
		if s, e := d.Read(name); s != file || e != api.OK {
			t.Fatalf("Read(%s): %d bytes, %d, not %d bytes", name, len(s), e, len(file))
		}
	}
	slices.Sort(names)
	if got := d.Names(); !slices.Equal(got, names) {
		t.Fatalf("Names: %q, not %q", got, names)
	}
}

// checkCounts asks how many changes were made, and how many are loose.
func checkCounts(t *testing.T, d *disk.Disk, made, loose int) {
	t.Helper()
	if d.Changes() != made || d.Loose() != loose {
		t.Fatalf("Changes %d, Loose %d, not %d, %d", d.Changes(), d.Loose(), made, loose)
	}
}

// answers asks for an answer.
func answers(t *testing.T, got, want api.Errno) {
	t.Helper()
	if got != want {
		t.Fatalf("answered %d, not %d", got, want)
	}
}

// opens opens the store blk.
func opens(t *testing.T, d *disk.Disk, most int) *Store {
	t.Helper()
	s, e := Open(d, "blk", most)
	if s == nil || e != api.OK {
		t.Fatalf("Open: %v, %d", s, e)
	}
	return s
}

// refuses asks that a store is not opened.
func refuses(t *testing.T, d *disk.Disk, name string, most int, want api.Errno) {
	t.Helper()
	if s, e := Open(d, name, most); s != nil || e != want {
		t.Fatalf("Open(%.40q, %d): %v, %d, not %d", name, most, s, e, want)
	}
}

// puts puts a body.
func puts(t *testing.T, s *Store, body string, want api.Pos, wantE api.Errno) {
	t.Helper()
	if p, e := s.Put(body); p != want || e != wantE {
		t.Fatalf("Put of %d bytes: %v, %d, not %v, %d", len(body), p, e, want, wantE)
	}
}

// gets asks what stands at a place.
func gets(t *testing.T, s *Store, p api.Pos, want string, wantE api.Errno) {
	t.Helper()
	if body, e := s.Get(p); body != want || e != wantE {
		t.Fatalf("Get(%v): %d bytes, %d, not %d bytes, %d", p, len(body), e, len(want), wantE)
	}
}

// holding is a disk with these files of the store blk, all of it sure.
func holding(t *testing.T, files state) *disk.Disk {
	t.Helper()
	d := disk.New()
	for n, s := range files {
		answers(t, d.Write("blk-"+strconv.Itoa(n), 0, s), api.OK)
	}
	answers(t, d.Sync(), api.OK)
	return d
}
