package index

import (
	"bedrock/api"
	"bedrock/block"
	"bedrock/disk"
	"bedrock/journal"
)

// Open opens an index on a disk: the index, and how many records it has.
func Open(d *disk.Disk, name string) (*Index, int, api.Errno) {
	j, e := journal.Open(d, name)
	if e != api.OK {
		return nil, 0, e
	}
	x := &Index{journal: j, places: map[api.Hash]int{}}
	good := x.load(j.All())
	if e := cutBehind(j, good); e != api.OK {
		return nil, 0, e
	}
	return x, good, api.OK
}

// load keeps the entries of records up to the first that may not stand there, and is how many are ahead of it.
func (x *Index) load(records []string) int {
	for n, s := range records {
		entry, e := Take(s)
		if e != api.OK {
			return n
		}
		id := block.ID(entry.Header)
		if _, there := x.places[id]; !there && x.stands(entry) != api.OK {
			return n
		}
		x.keep(id, entry)
	}
	return len(records)
}

// cutBehind cuts away what stands behind the first records, if there is something.
func cutBehind(j *journal.Journal, n int) api.Errno {
	if n == j.Len() {
		return api.OK
	}
	if e := j.Cut(n); e != api.OK {
		return e
	}
	return j.Flush()
}
