package tree

import (
	"slices"

	"bedrock/api"
	"bedrock/target"
)

// NextBits is the bits that are asked for of what stands on a node.
func (t *Tree) NextBits(id api.Hash) uint32 {
	place, there := t.find(id)
	if !there {
		return 0
	}
	return t.asked(place)
}

// Median is the median time of a node.
func (t *Tree) Median(id api.Hash) uint32 {
	place, there := t.find(id)
	if !there {
		return 0
	}
	return t.median(place)
}

// fits is why a header that meets its target may not stand on a node.
func (t *Tree) fits(h api.Header, parent int, now uint32) api.Errno {
	switch {
	case t.nodes[parent].Bad:
		return api.ErrBad
	case h.Bits != t.asked(parent):
		return api.ErrAsked
	case h.Time <= t.median(parent):
		return api.ErrOld
	case uint64(h.Time) > uint64(now)+api.MaxFuture: // the sum may pass 32 bits
		return api.ErrSoon
	case len(t.nodes) >= api.MaxTree:
		return api.ErrMany
	}
	return api.OK
}

// asked is the bits that are asked for of what stands on a node.
func (t *Tree) asked(place int) uint32 {
	n := &t.nodes[place]
	next := n.Height + 1
	if next%api.Retarget != 0 {
		return n.Header.Bits
	}
	first := t.nodes[t.ancestor(place, next-api.Retarget)].Header.Time
	bits, _ := target.Next(n.Header.Bits, first, n.Header.Time) // what is there has bits that may be
	return bits
}

// median is the median time of a node.
func (t *Tree) median(place int) uint32 {
	times := make([]uint32, 0, api.MedianSpan)
	for len(times) < api.MedianSpan {
		n := &t.nodes[place]
		times = append(times, n.Header.Time)
		if n.Height == 0 {
			break
		}
		place = n.parent
	}
	slices.Sort(times)
	return times[len(times)/2]
}
