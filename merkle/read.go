package merkle

import "bedrock/api"

// Read is the root of a partial tree, and the places and ids that are meant.
func Read(p api.Partial) (api.Hash, []int, []api.Hash, api.Errno) {
	if p.Count < 1 || p.Count > api.MaxLeaves {
		return api.Hash{}, nil, nil, api.ErrPartial
	}
	r := reader{count: p.Count, bits: p.Bits, ids: p.Ids}
	root, good := r.read(Depth(p.Count), 0)
	if !good || len(r.bits) > 0 || len(r.ids) > 0 {
		return api.Hash{}, nil, nil, api.ErrPartial
	}
	return root, r.places, r.meant, api.OK
}

// reader goes over a partial tree from the root down.
type reader struct {
	count  int
	bits   []bool     // those that were not gone over
	ids    []api.Hash // those, too
	places []int      // of the meant ids that were met
	meant  []api.Hash
}

// read is the id of a position, by what is told of it; and whether that is a partial tree's.
func (r *reader) read(level, place int) (api.Hash, bool) {
	if len(r.bits) == 0 {
		return api.Hash{}, false
	}
	meant := r.bits[0]
	r.bits = r.bits[1:]
	if meant && level > 0 {
		return r.readParts(level-1, 2*place)
	}
	if len(r.ids) == 0 {
		return api.Hash{}, false
	}
	id := r.ids[0]
	r.ids = r.ids[1:]
	if meant {
		r.places = append(r.places, place)
		r.meant = append(r.meant, id)
	}
	return id, true
}

// readParts is the id above the parts at a place and the next one, if there is one; two that are the same would let other lists have the root.
func (r *reader) readParts(level, place int) (api.Hash, bool) {
	first, good := r.read(level, place)
	if !good {
		return api.Hash{}, false
	}
	if place+1 >= width(r.count, level) {
		return Pair(first, first), true
	}
	second, good := r.read(level, place+1)
	if !good || first == second {
		return api.Hash{}, false
	}
	return Pair(first, second), true
}
