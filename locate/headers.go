package locate

import (
	"bedrock/api"
	"bedrock/block"
	"bedrock/target"
	"bedrock/tree"
	"bedrock/wide"
)

// Headers is the headers of a tip's active chain behind what Find tells of a locator, up to stop; of an empty locator that of stop alone.
func Headers(t *tree.Tree, tip api.Hash, locator []api.Hash, stop api.Hash, most int) ([]api.Header, api.Errno) {
	last, there := t.Get(tip)
	if !there {
		return nil, api.ErrNone
	}
	if most < 0 {
		return nil, api.ErrArg
	}
	until, there := t.Get(stop)
	if len(locator) == 0 {
		if !there || most == 0 {
			return nil, api.OK
		}
		return []api.Header{until.Header}, api.OK
	}
	id, _ := Find(t, tip, locator...)
	from, _ := t.Get(id)
	if until.Height > from.Height && t.Above(tip, stop) {
		last = until
	}
	n := min(most, last.Height-from.Height)
	top, _ := t.At(last.ID, from.Height+n)
	return headers(t, top, n), api.OK
}

// headers is those of a block and of ancestors of it, n in all, rising.
func headers(t *tree.Tree, top api.Hash, n int) []api.Header {
	l := make([]api.Header, n)
	for i := n - 1; i >= 0; i-- {
		at, _ := t.Get(top)
		l[i], top = at.Header, at.Header.Prev
	}
	return l
}

// Linked is the first place at which a header does not stand on the one ahead of it, or -1.
func Linked(l []api.Header) int {
	for i := 1; i < len(l); i++ {
		if l[i].Prev != block.ID(l[i-1]) {
			return i
		}
	}
	return -1
}

// Claims is the work of headers that stand on one another, added up; or the place and the error of what they may not be.
func Claims(l []api.Header) (api.Wide, int, api.Errno) {
	apart := Linked(l)
	var sum api.Wide
	for i, h := range l {
		if i == apart {
			return api.Wide{}, i, api.ErrLink
		}
		work, e := target.Work(h.Bits)
		if e != api.OK {
			return api.Wide{}, i, e
		}
		sum, _ = wide.Sum(sum, work)
	}
	for i, h := range l {
		if !block.Meets(h) {
			return api.Wide{}, i, api.ErrArg
		}
	}
	return sum, 0, api.OK
}
