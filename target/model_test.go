package target

import (
	"math/big"
	"math/rand"
	"slices"

	"bedrock/api"
	"bedrock/wide"
)

// power is 2^n.
func power(n uint) *big.Int { return new(big.Int).Lsh(big.NewInt(1), n) }

// bigOf is a number of 256 bits as one of math/big.
func bigOf(a api.Wide) *big.Int {
	h := wide.Bytes(a)
	slices.Reverse(h[:])
	return new(big.Int).SetBytes(h[:])
}

// wideOf is a number of math/big, from 0 to 2^256 - 1, as one of 256 bits.
func wideOf(n *big.Int) api.Wide {
	var h api.Hash
	n.FillBytes(h[:])
	slices.Reverse(h[:])
	return wide.Of(h)
}

// join is the bits of a size, a sign and a number.
func join(size int, sign bool, number uint32) uint32 {
	bits := uint32(size)<<24 | number
	if sign {
		bits |= 0x800000
	}
	return bits
}

// limitByWords is the limit as it is written out: 0x7fffff and 29 bytes of 0.
func limitByWords() api.Wide { return api.Wide{0, 0, 0, 0x7fffff0000000000} }

// modelSaid is the target that bits say, by the chapter's words, without any bound.
func modelSaid(bits uint32) *big.Int {
	size, number := uint(bits>>24), big.NewInt(int64(bits&0x7fffff))
	if size <= 3 {
		return number.Rsh(number, 8*(3-size))
	}
	return number.Lsh(number, 8*(size-3))
}

// modelExpand is the target of bits, and whether they may be.
func modelExpand(bits uint32) (*big.Int, bool) {
	t := modelSaid(bits)
	return t, bits&0x800000 == 0 && t.Sign() > 0 && t.Cmp(bigOf(limitByWords())) <= 0
}

// modelCompact is the bits of a number, by its bytes from the highest on.
func modelCompact(n *big.Int) uint32 {
	l := n.Bytes()
	size := uint32(len(l))
	l = append(l, 0, 0, 0)
	if l[0] >= 0x80 {
		return (size+1)<<24 | uint32(l[0])<<8 | uint32(l[1])
	}
	return size<<24 | uint32(l[0])<<16 | uint32(l[1])<<8 | uint32(l[2])
}

// modelWork is the work of a target.
func modelWork(t *big.Int) *big.Int {
	return new(big.Int).Quo(power(256), new(big.Int).Add(t, big.NewInt(1)))
}

// modelNext is the next target's bits.
func modelNext(t *big.Int, first, last uint32) uint32 {
	span := int64(last) - int64(first)
	if span < 120 {
		span = 120
	}
	if span > 1920 {
		span = 1920
	}
	next := new(big.Int).Mul(t, big.NewInt(span))
	next.Quo(next, big.NewInt(480))
	if limit := bigOf(limitByWords()); next.Cmp(limit) > 0 {
		next = limit
	}
	if next.Sign() == 0 {
		next.SetInt64(1)
	}
	return modelCompact(next)
}

// everyBits is bits of every size, with and without the sign, of numbers at the edges, and some by lots.
func everyBits(seed int64, n int) []uint32 {
	var l []uint32
	for size := range 256 {
		for _, number := range []uint32{0, 1, 0x7f, 0x80, 0xff, 0x100, 0x7fff, 0x8000, 0xffff, 0x10000, 0x123456, 0x7ffffe, 0x7fffff} {
			l = append(l, join(size, false, number), join(size, true, number))
		}
	}
	lots := rand.New(rand.NewSource(seed))
	for range n {
		l = append(l, lots.Uint32(), join(lots.Intn(36), lots.Intn(8) == 0, lots.Uint32()&0x7fffff>>lots.Intn(24)))
	}
	return l
}

// goodBits is those of everyBits that may be.
func goodBits(seed int64, n int) []uint32 {
	return slices.DeleteFunc(everyBits(seed, n), func(bits uint32) bool {
		_, good := modelExpand(bits)
		return !good
	})
}

// everyNumber is numbers about the ends of bytes and about the limit, and some by lots, of every length.
func everyNumber(seed int64, n int) []api.Wide {
	l := []api.Wide{{}, limitByWords(), {1<<64 - 1, 1<<64 - 1, 1<<64 - 1, 1<<64 - 1}}
	for bit := range uint(256) {
		for more := int64(-1); more <= 1; more++ {
			l = append(l, wideOf(new(big.Int).Add(power(bit), big.NewInt(more))))
		}
	}
	for more := int64(-2); more <= 2; more++ {
		l = append(l, wideOf(new(big.Int).Add(bigOf(limitByWords()), big.NewInt(more))))
	}
	lots := rand.New(rand.NewSource(seed))
	for range n {
		a := api.Wide{lots.Uint64(), lots.Uint64(), lots.Uint64(), lots.Uint64()}
		l = append(l, wide.Right(a, lots.Intn(256)))
	}
	return l
}
