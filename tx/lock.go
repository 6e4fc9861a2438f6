package tx

import (
	"bedrock/api"
	"bedrock/sha"
)

// lastSequence is the sequence of an input that does not wait for a height or a time.
const lastSequence = 1<<32 - 1

// Opens tells whether a key opens a lock: whether the lock is the one of its length that the key has.
func Opens(lock, key string) bool {
	own, e := Lock(key, len(lock))
	return e == api.OK && own == lock
}

// Lock is the lock of n bytes that a key opens.
func Lock(key string, n int) (string, api.Errno) {
	if n < 0 || n > idLong {
		return "", api.ErrArg
	}
	digest := sha.Twice(key)
	return string(digest[:n]), api.OK
}

// Final tells whether a transaction may stand in a block of a height and a time.
func Final(t api.Tx, height int, time uint32) bool {
	if t.Time == 0 || allLast(t.Ins) {
		return true
	}
	if t.Time < api.TimeOfTime {
		return int(t.Time) < height // its time is above 0: a height below 0 answers as 0 does
	}
	return t.Time < time
}

// allLast tells whether no input waits; of no inputs none does.
func allLast(ins []api.In) bool {
	for _, in := range ins {
		if in.Sequence != lastSequence {
			return false
		}
	}
	return true
}
