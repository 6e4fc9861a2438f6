package journal

import (
	"bedrock/api"
	"bedrock/disk"
)

const (
	maxName = 28
	aside   = ".tmp" // behind the name of a file that is not in its place yet
)

// Open opens a journal on a disk.
func Open(d *disk.Disk, name string) (*Journal, api.Errno) {
	if d == nil {
		return nil, api.ErrArg
	}
	if !isName(name) {
		return nil, api.ErrName
	}
	j := &Journal{disk: d, name: name}
	mend, e := j.load()
	if e != api.OK {
		return nil, e
	}
	if e := inOrder(mend); e != api.OK {
		return nil, e
	}
	return j, api.OK
}

// load takes what the file tells, and is what is to be done to the disk: nothing, if the file is no journal's.
func (j *Journal) load() ([]func() api.Errno, api.Errno) {
	tidy := func() api.Errno { return removeAside(j.disk, j.name) }
	file, e := j.disk.Read(j.name)
	if e != api.OK && e != api.ErrNone {
		return nil, e
	}
	if len(file) < headLong {
		begin := func() api.Errno { return j.disk.Write(j.name, 0, Head(0)) }
		return []func() api.Errno{tidy, begin, j.disk.Sync}, api.OK
	}
	j.epoch, j.records, j.torn, e = Read(file)
	if e != api.OK {
		return nil, e
	}
	if j.torn == 0 {
		return []func() api.Errno{tidy}, api.OK
	}
	cut := func() api.Errno { return j.disk.Cut(j.name, len(file)-j.torn) }
	return []func() api.Errno{tidy, cut, j.disk.Sync}, api.OK
}

// writeAnew is what is to be done so that a file has other bytes, or, whatever falls, those that it had.
func writeAnew(d *disk.Disk, name, s string) []func() api.Errno {
	return []func() api.Errno{
		// What another journal of this name left there must not stand behind s.
		func() api.Errno { return removeAside(d, name) },
		func() api.Errno { return d.Write(name+aside, 0, s) },
		d.Sync,
		func() api.Errno { return d.Move(name+aside, name) },
		d.Sync,
	}
}

// removeAside removes the file that was to come in the place of another one, if it is there.
func removeAside(d *disk.Disk, name string) api.Errno {
	if e := d.Remove(name + aside); e != api.ErrNone {
		return e
	}
	return api.OK
}

// inOrder does one step behind the other, up to the first error.
func inOrder(steps []func() api.Errno) api.Errno {
	for _, step := range steps {
		if e := step(); e != api.OK {
			return e
		}
	}
	return api.OK
}

// isName tells whether a journal may have that name. It asks a disk without files: one that is dead tells nothing of names.
func isName(s string) bool {
	_, e := disk.New().Size(s)
	return e != api.ErrName && len(s) <= maxName
}
