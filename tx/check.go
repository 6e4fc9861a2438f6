package tx

import "bedrock/api"

// How many bytes a coinbase's key has.
const (
	leastBaseKey = 2
	mostBaseKey  = 100
)

// Check is why a transaction may not be, whatever stands around it, or OK.
func Check(t api.Tx) api.Errno {
	if e := mayBeTold(t); e != api.OK {
		return e
	}
	if len(t.Ins) == 0 || len(t.Outs) == 0 {
		return api.ErrEmpty
	}
	if _, e := Paid(t); e != api.OK {
		return e
	}
	if hasTwin(t) {
		return api.ErrTwin
	}
	if Base(t) {
		return checkBaseKey(t.Ins[0].Key)
	}
	for _, in := range t.Ins {
		if isNull(in.Point) {
			return api.ErrNull
		}
	}
	return api.OK
}

// Paid is all values of the outputs together.
func Paid(t api.Tx) (uint64, api.Errno) {
	var all uint64
	for _, out := range t.Outs {
		if out.Value > api.MaxMoney-all { // no sum is made that could pass 64 bits
			return 0, api.ErrValue
		}
		all += out.Value
	}
	return all, api.OK
}

// hasTwin tells whether two inputs spend one output.
func hasTwin(t api.Tx) bool {
	seen := map[api.Point]struct{}{}
	for _, in := range t.Ins {
		if _, twice := seen[in.Point]; twice {
			return true
		}
		seen[in.Point] = struct{}{}
	}
	return false
}

func checkBaseKey(key string) api.Errno {
	if len(key) < leastBaseKey || len(key) > mostBaseKey {
		return api.ErrBase
	}
	return api.OK
}
