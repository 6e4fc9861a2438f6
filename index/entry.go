package index

import (
	"math"

	"bedrock/api"
	"bedrock/block"
)

// Where an entry's numbers stand in its bytes, behind its header.
const (
	heightAt  = api.HeaderBytes
	stateAt   = heightAt + 4
	fileAt    = stateAt + 1
	atAt      = fileAt + 4
	longAt    = atAt + 4
	entryLong = longAt + 4
)

// allStates has each bit that a state may have.
const allStates = api.HasBody | api.Checked | api.Bad | api.BadAhead

// Bytes is an entry's bytes.
func Bytes(x api.Entry) (string, api.Errno) {
	if !mayBe(x) {
		return "", api.ErrEntry
	}
	b := []byte(block.Head(x.Header))
	b = putFour(b, x.Height)
	b = append(b, byte(x.State))
	b = putFour(b, x.File)
	b = putFour(b, x.At)
	b = putFour(b, x.Long)
	return string(b), api.OK
}

// Take is the entry of bytes.
func Take(s string) (api.Entry, api.Errno) {
	if len(s) < entryLong {
		return api.Entry{}, api.ErrCut
	}
	if len(s) > entryLong {
		return api.Entry{}, api.ErrMore
	}
	header, e := block.TakeHead(s, 0)
	if e != api.OK {
		return api.Entry{}, e
	}
	x := api.Entry{
		Header: header,
		Height: four(s[heightAt:]),
		State:  int(s[stateAt]),
		File:   four(s[fileAt:]),
		At:     four(s[atAt:]),
		Long:   four(s[longAt:]),
	}
	if !mayBe(x) {
		return api.Entry{}, api.ErrEntry
	}
	return x, api.OK
}

// mayBe tells whether an entry may be.
func mayBe(x api.Entry) bool {
	return within(x.Height, api.MaxTree) && within(x.State, allStates) &&
		within(x.File, math.MaxInt32) && within(x.At, math.MaxInt32) && within(x.Long, math.MaxInt32)
}

// within tells whether a number is from 0 on, and not above the most.
func within(n, most int) bool { return n >= 0 && n <= most }

// putFour puts a number in four bytes behind others, the lowest first.
func putFour(to []byte, n int) []byte {
	return append(to, byte(n), byte(n>>8), byte(n>>16), byte(n>>24))
}

// four is the number whose four bytes stand at the front.
func four(s string) int {
	return int(uint32(s[0]) | uint32(s[1])<<8 | uint32(s[2])<<16 | uint32(s[3])<<24)
}
