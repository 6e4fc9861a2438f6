package disk

import (
	"maps"
	"slices"
	"testing"

	"bedrock/api"
)

// step is a call that may make a change, or a Sync.
type step struct {
	kind     string // write, append, cut, move, remove, sync
	name, to string // to: of a move
	at       int    // the place of a write, the bytes that a cut leaves
	s        string
}

// on does a step to a disk.
func (x step) on(d *Disk) api.Errno {
	switch x.kind {
	case "write":
		return d.Write(x.name, x.at, x.s)
	case "append":
		return d.Append(x.name, x.s)
	case "cut":
		return d.Cut(x.name, x.at)
	case "move":
		return d.Move(x.name, x.to)
	case "remove":
		return d.Remove(x.name)
	}
	return d.Sync()
}

// played is the files that steps make, from none on.
func played(lists ...[]step) map[string]string {
	f := map[string]string{}
	for _, x := range slices.Concat(lists...) {
		old := f[x.name]
		switch x.kind {
		case "append":
			f[x.name] = old + x.s
		case "write":
			end := min(len(old), x.at+len(x.s))
			f[x.name] = old[:x.at] + x.s + old[end:]
		case "cut":
			f[x.name] = old[:x.at]
		case "move":
			if x.name != x.to {
				f[x.to] = old
				delete(f, x.name)
			}
		case "remove":
			delete(f, x.name)
		}
	}
	return f
}

// left is what stays of loose steps when the power fails.
func left(loose []step, keep, torn int) []step {
	keep = max(keep, 0)
	if keep >= len(loose) {
		return loose
	}
	stay, next := slices.Clone(loose[:keep]), loose[keep]
	if torn < 1 || next.kind != "write" && next.kind != "append" {
		return stay
	}
	if torn < len(next.s) {
		next.s = next.s[:torn]
	}
	return append(stay, next)
}

// model is a disk that keeps all steps that stay from its beginning on, and plays them anew for each answer.
type model struct {
	sure, loose []step
	made        int
	plan        []api.Fall
	dead        bool
}

func (m *model) files() map[string]string { return played(m.sure, m.loose) }

func (m *model) crash(keep, torn int) {
	if !m.dead {
		m.sure = slices.Concat(m.sure, left(m.loose, keep, torn))
		m.loose, m.dead = nil, true
	}
}

// call is what a step is answered.
func (m *model) call(x step) api.Errno {
	if m.dead {
		return api.ErrDead
	}
	if e := m.wrong(x); e != api.OK {
		return e
	}
	for i, f := range m.plan {
		if f.At == m.made && f.Sync == (x.kind == "sync") {
			m.plan = slices.Concat(m.plan[:i], m.plan[i+1:])
			m.crash(f.Keep, f.Torn)
			return api.ErrDead
		}
	}
	if x.kind == "sync" {
		m.sure, m.loose = slices.Concat(m.sure, m.loose), nil
		return api.OK
	}
	m.loose = append(m.loose, x)
	m.made++
	return api.OK
}

// wrong is the error of a step on a disk that is not dead.
func (m *model) wrong(x step) api.Errno {
	f := m.files()
	old, there := f[x.name]
	switch {
	case x.kind == "sync":
		return api.OK
	case !modelName(x.name) || x.kind == "move" && !modelName(x.to):
		return api.ErrName
	case x.kind != "write" && x.kind != "append" && !there:
		return api.ErrNone
	case (x.kind == "write" || x.kind == "cut") && (x.at < 0 || x.at > len(old)):
		return api.ErrArg
	case x.kind == "write" && x.at+len(x.s) > 1<<24, x.kind == "append" && len(old)+len(x.s) > 1<<24:
		return api.ErrFull
	case !there && len(f) == 64:
		return api.ErrFull
	}
	return api.OK
}

func modelName(s string) bool {
	for _, b := range []byte(s) {
		if !slices.Contains([]byte("abcdefghijklmnopqrstuvwxyz0123456789.-"), b) {
			return false
		}
	}
	return len(s) > 0 && len(s) < 33
}

// checkFiles asks that a disk which is not dead has these files.
func checkFiles(t *testing.T, d *Disk, want map[string]string) {
	t.Helper()
	if got, names := d.Names(), slices.Sorted(maps.Keys(want)); !slices.Equal(got, names) {
		t.Fatalf("Names: %q, not %q", got, names)
	}
	for name, s := range want {
		if got, e := d.Read(name); got != s || e != api.OK {
			t.Fatalf("Read(%s): %.60q, %d, not %.60q", name, got, e, s)
		}
		if n, e := d.Size(name); n != len(s) || e != api.OK {
			t.Fatalf("Size(%s): %d, %d, not %d", name, n, e, len(s))
		}
		at, n := len(s)/3, len(s)/2
		if got, e := d.Part(name, at, n); got != s[at:at+n] || e != api.OK {
			t.Fatalf("Part(%s, %d, %d): %.60q, %d", name, at, n, got, e)
		}
	}
}

// checkSure asks that a disk would have these files without its loose changes.
func checkSure(t *testing.T, d *Disk, want map[string]string) {
	t.Helper()
	if got := d.Sure(); !maps.Equal(got, want) {
		t.Fatalf("Sure: %.60q, not %.60q", got, want)
	}
}

// checkCounts asks how many changes were made, and how many are loose.
func checkCounts(t *testing.T, d *Disk, made, loose int) {
	t.Helper()
	if d.Changes() != made || d.Loose() != loose {
		t.Fatalf("Changes %d, Loose %d, not %d, %d", d.Changes(), d.Loose(), made, loose)
	}
}

// checkSame asks that a disk tells what its model tells.
func checkSame(t *testing.T, d *Disk, m *model) {
	t.Helper()
	if d.Dead() != m.dead {
		t.Fatalf("Dead: %v", d.Dead())
	}
	checkCounts(t, d, m.made, len(m.loose))
	checkSure(t, d, played(m.sure))
	want := m.files()
	if !m.dead {
		checkFiles(t, d, want)
		return
	}
	if got, names := d.Names(), slices.Sorted(maps.Keys(want)); !slices.Equal(got, names) {
		t.Fatalf("Names of a dead disk: %q, not %q", got, names)
	}
}

// must does steps that are answered OK.
func must(t *testing.T, d *Disk, l ...step) {
	t.Helper()
	for i, x := range l {
		if e := x.on(d); e != api.OK {
			t.Fatalf("step %d, %s of %.40q at %d: %d", i, x.kind, x.name, x.at, e)
		}
	}
}

// Short forms of steps.
func write(name string, at int, s string) step { return step{kind: "write", name: name, at: at, s: s} }
func add(name, s string) step                  { return step{kind: "append", name: name, s: s} }
func cut(name string, n int) step              { return step{kind: "cut", name: name, at: n} }
func move(from, to string) step                { return step{kind: "move", name: from, to: to} }
func remove(name string) step                  { return step{kind: "remove", name: name} }
func sync() step                               { return step{kind: "sync"} }
