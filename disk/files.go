package disk

import "slices"

// The kinds of changes.
const (
	writes = iota
	cuts
	moves
	removes
)

// change is what a call does to files, so that it can be done to others again.
type change struct {
	kind     int
	name, to string // to: the other name of a move
	at       int    // the place of a write, the bytes that a cut leaves
	s        string
}

// torn is the part of a change that stays when the power fails at it, and whether there is one.
func (c change) torn(n int) (change, bool) {
	if c.kind != writes || n < 1 {
		return change{}, false
	}
	c.s = c.s[:min(n, len(c.s))]
	return c, true
}

// files is the bytes that stand under each name.
type files map[string][]byte

// play does changes to files on which they may be done.
func (f *files) play(l ...change) {
	if *f == nil {
		*f = files{}
	}
	for _, c := range l {
		f.playOne(c)
	}
}

// playOne does one change.
func (f files) playOne(c change) {
	file := f[c.name]
	switch c.kind {
	case writes:
		over := copy(file[c.at:], c.s)
		f[c.name] = append(file, c.s[over:]...)
	case cuts:
		f[c.name] = file[:c.at]
	case moves:
		delete(f, c.name)
		f[c.to] = file
	case removes:
		delete(f, c.name)
	}
}

// clone is the same files in memory of their own.
func (f files) clone() files {
	same := make(files, len(f))
	for name, file := range f {
		same[name] = slices.Clone(file)
	}
	return same
}
