package disk

import (
	"maps"
	"slices"

	"bedrock/api"
)

// Read is a file's bytes.
func (d *Disk) Read(name string) (string, api.Errno) {
	file, e := d.find(name)
	return string(file), e
}

// Part is some of a file's bytes.
func (d *Disk) Part(name string, at, n int) (string, api.Errno) {
	file, e := d.find(name)
	if e != api.OK {
		return "", e
	}
	// The sum of at and n may be more than an int holds.
	if at < 0 || n < 0 || at > len(file) || n > len(file)-at {
		return "", api.ErrArg
	}
	return string(file[at : at+n]), api.OK
}

// Size is a file's size.
func (d *Disk) Size(name string) (int, api.Errno) {
	file, e := d.find(name)
	return len(file), e
}

// Names is all files' names.
func (d *Disk) Names() []string {
	if d == nil {
		return nil
	}
	return slices.Sorted(maps.Keys(d.now))
}

// Sure is the files without what is loose.
func (d *Disk) Sure() map[string]string {
	if d == nil {
		return nil
	}
	told := make(map[string]string, len(d.sure))
	for name, file := range d.sure {
		told[name] = string(file)
	}
	return told
}

// find is the file of a name, not to be handed out, or the error of a call that needs one.
func (d *Disk) find(name string) ([]byte, api.Errno) {
	if e := d.ready(name); e != api.OK {
		return nil, e
	}
	file, there := d.now[name]
	if !there {
		return nil, api.ErrNone
	}
	return file, api.OK
}
