// Package num is layer 1: numbers in bytes, counts of one to nine bytes, texts to the base 16, a reader and a writer. See shared/doc/01-num.md.
package num

// lowFirst is the number that bytes stand for, the lowest first; of no bytes it is 0, which is what a reader with an error answers.
func lowFirst(s string) uint64 {
	var n uint64
	for i := len(s) - 1; i >= 0; i-- {
		n = n<<8 | uint64(s[i])
	}
	return n
}

// putLow lays the lowest long bytes of n behind to, the lowest first.
func putLow(to []byte, n uint64, long int) []byte {
	for range long {
		to = append(to, byte(n))
		n >>= 8
	}
	return to
}

// swap16 turns a number round from one order of its bytes to the other.
func swap16(n uint16) uint16 { return n<<8 | n>>8 }
