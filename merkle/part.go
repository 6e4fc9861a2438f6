package merkle

import "bedrock/api"

// Part is the partial tree of a list of ids and of marks that say which of them are meant.
func Part(l []api.Hash, marks []bool) (api.Partial, api.Errno) {
	if len(l) == 0 || len(marks) != len(l) {
		return api.Partial{}, api.ErrArg
	}
	if len(l) > api.MaxLeaves {
		return api.Partial{}, api.ErrMany
	}
	t := teller{levels: Levels(l), meant: meantLevels(marks), told: api.Partial{Count: len(l)}}
	t.tell(len(t.levels)-1, 0)
	return t.told, api.OK
}

// meantLevels is, of each level from 0 on, at which places a meant id hangs beneath.
func meantLevels(marks []bool) [][]bool {
	levels := [][]bool{marks}
	for level := marks; len(level) > 1; {
		next := make([]bool, width(len(level), 1))
		for place, meant := range level {
			next[place/2] = next[place/2] || meant
		}
		level = next
		levels = append(levels, level)
	}
	return levels
}

// teller tells a partial tree from the root down.
type teller struct {
	levels [][]api.Hash
	meant  [][]bool
	told   api.Partial
}

// tell puts a position, and what of it is beneath, behind what was told.
func (t *teller) tell(level, place int) {
	meant := t.meant[level][place]
	t.told.Bits = append(t.told.Bits, meant)
	if !meant || level == 0 {
		t.told.Ids = append(t.told.Ids, t.levels[level][place])
		return
	}
	first := 2 * place
	t.tell(level-1, first)
	if second := first + 1; second < len(t.levels[level-1]) {
		t.tell(level-1, second)
	}
}
