package valid

import (
	"bytes"
	"crypto/sha256"
	"encoding/binary"
	"math/big"
	"slices"
	"strings"

	"bedrock/api"
)

// null is a coinbase's point.
var null = api.Point{Index: 4294967295}

// count is a count's bytes, by the library's numbers in bytes.
func count(n uint64) string {
	switch {
	case n < 253:
		return string([]byte{byte(n)})
	case n < 1<<16:
		return string(binary.LittleEndian.AppendUint16([]byte{253}, uint16(n)))
	case n < 1<<32:
		return string(binary.LittleEndian.AppendUint32([]byte{254}, uint32(n)))
	}
	return string(binary.LittleEndian.AppendUint64([]byte{255}, n))
}

func four(n uint32) string { return string(binary.LittleEndian.AppendUint32(nil, n)) }

func eight(n uint64) string { return string(binary.LittleEndian.AppendUint64(nil, n)) }

func text(s string) string { return count(uint64(len(s))) + s }

// digest is SHA-256 of SHA-256, by the library.
func digest(s string) api.Hash {
	once := sha256.Sum256([]byte(s))
	return sha256.Sum256(once[:])
}

// headText is a header's bytes, idOf its id.
func headText(h api.Header) string {
	return four(h.Version) + string(h.Prev[:]) + string(h.Root[:]) + four(h.Time) + four(h.Bits) + four(h.Nonce)
}

func idOf(h api.Header) api.Hash { return digest(headText(h)) }

// txText is a transaction's bytes, whatever the limits.
func txText(t api.Tx) string {
	var s strings.Builder
	s.WriteString(four(t.Version) + count(uint64(len(t.Ins))))
	for _, in := range t.Ins {
		s.WriteString(string(in.Point.Tx[:]) + four(in.Point.Index) + text(in.Key) + four(in.Sequence))
	}
	s.WriteString(count(uint64(len(t.Outs))))
	for _, out := range t.Outs {
		s.WriteString(eight(out.Value) + text(out.Lock))
	}
	return s.String() + four(t.Time)
}

// toldFault is why a transaction may not be told as bytes.
func toldFault(t api.Tx) api.Errno {
	if slices.ContainsFunc(t.Ins, func(in api.In) bool { return len(in.Key) > 520 }) ||
		slices.ContainsFunc(t.Outs, func(out api.Out) bool { return len(out.Lock) > 520 }) {
		return 100
	}
	if len(txText(t)) > 4096 {
		return 101
	}
	return 0
}

// txID is a transaction's id; zeros of one that may not be told.
func txID(t api.Tx) api.Hash {
	if toldFault(t) != 0 {
		return api.Hash{}
	}
	return digest(txText(t))
}

func isBase(t api.Tx) bool { return len(t.Ins) == 1 && t.Ins[0].Point == null }

// all is values together, by the library's numbers.
func all(values ...uint64) *big.Int {
	sum := new(big.Int)
	for _, v := range values {
		sum.Add(sum, new(big.Int).SetUint64(v))
	}
	return sum
}

// pays is what a transaction's outputs have together.
func pays(t api.Tx) *big.Int {
	sum := new(big.Int)
	for _, out := range t.Outs {
		sum.Add(sum, all(out.Value))
	}
	return sum
}

// txFault is tx.Check by the words of chapter 10.
func txFault(t api.Tx) api.Errno {
	if e := toldFault(t); e != 0 {
		return e
	}
	if len(t.Ins) == 0 || len(t.Outs) == 0 {
		return 102
	}
	if pays(t).Cmp(big.NewInt(1000000)) > 0 {
		return 103
	}
	points := map[api.Point]int{}
	for _, in := range t.Ins {
		points[in.Point]++
	}
	if len(points) < len(t.Ins) {
		return 104
	}
	if isBase(t) {
		if n := len(t.Ins[0].Key); n < 2 || n > 100 {
			return 105
		}
		return 0
	}
	if points[null] > 0 {
		return 106
	}
	return 0
}

// rootOf is the root of transactions, and whether they are mutated.
func rootOf(txs ...api.Tx) (api.Hash, bool) {
	var ids []api.Hash
	for _, t := range txs {
		ids = append(ids, txID(t))
	}
	mutated := false
	for len(ids) > 1 {
		var above []api.Hash
		for i := 0; i < len(ids); i += 2 {
			j := min(i+1, len(ids)-1)
			mutated = mutated || i < j && ids[i] == ids[j]
			above = append(above, digest(string(ids[i][:])+string(ids[j][:])))
		}
		ids = above
	}
	if len(ids) == 0 {
		return api.Hash{}, false
	}
	return ids[0], mutated
}

// wantCheck is Check by the words of the chapter.
func wantCheck(b api.Block) api.Errno {
	long := len(headText(b.Header)) + len(count(uint64(len(b.Txs))))
	for _, t := range b.Txs {
		long += len(txText(t))
	}
	root, mutated := rootOf(b.Txs...)
	switch {
	case long > 8192:
		return 110
	case len(b.Txs) == 0:
		return 160
	case root != b.Header.Root:
		return 161
	case mutated:
		return 162
	case !isBase(b.Txs[0]):
		return 163
	case slices.ContainsFunc(b.Txs[1:], isBase):
		return 164
	}
	for _, t := range b.Txs {
		if e := txFault(t); e != 0 {
			return e
		}
	}
	return 0
}

// spot is a coin, and its point.
type spot struct {
	point api.Point
	coin  api.Coin
}

// model is a set by the words of the chapter: its coins in no order.
type model struct {
	tip    api.Hash
	height int
	spots  []spot
}

func (m model) find(p api.Point) int {
	return slices.IndexFunc(m.spots, func(s spot) bool { return s.point == p })
}

func (m model) has(p api.Point) bool { return m.find(p) >= 0 }

// hasOf tells whether an output of a transaction is there.
func (m model) hasOf(id api.Hash) bool {
	return slices.ContainsFunc(m.spots, func(s spot) bool { return s.point.Tx == id })
}

// without is the set without what stands at a point.
func (m model) without(p api.Point) model {
	m.spots = slices.DeleteFunc(slices.Clone(m.spots), func(s spot) bool { return s.point == p })
	return m
}

// with is the set with a coin at a point.
func (m model) with(p api.Point, coin api.Coin) model {
	m.spots = append(m.without(p).spots, spot{p, coin})
	return m
}

// sorted is the coins in the order of their points.
func (m model) sorted() []spot {
	return slices.SortedFunc(slices.Values(m.spots), func(a, b spot) int {
		if n := bytes.Compare(a.point.Tx[:], b.point.Tx[:]); n != 0 {
			return n
		}
		return all(uint64(a.point.Index)).Cmp(all(uint64(b.point.Index)))
	})
}

// text is the set's bytes.
func (m model) text() string {
	var s strings.Builder
	s.WriteString(string(m.tip[:]) + four(uint32(m.height)) + count(uint64(len(m.spots))))
	for _, x := range m.sorted() {
		s.WriteString(string(x.point.Tx[:]) + four(x.point.Index) + coinText(x.coin))
	}
	return s.String()
}

func coinText(c api.Coin) string {
	bases := map[bool]string{false: "\x00", true: "\x01"}
	return four(uint32(c.Height)) + bases[c.Coinbase] + eight(c.Out.Value) + text(c.Out.Lock)
}

// opens tells whether a key opens a lock.
func opens(lock, key string) bool {
	d := digest(key)
	return lock == "" || len(lock) <= 32 && strings.HasPrefix(string(d[:]), lock)
}

// isFinal tells whether a transaction may stand at a height and a time.
func isFinal(t api.Tx, height int, time uint32) bool {
	waits := slices.ContainsFunc(t.Ins, func(in api.In) bool { return in.Sequence != 4294967295 })
	if t.Time == 0 || !waits {
		return true
	}
	if t.Time < 500000000 {
		return int(t.Time) < height
	}
	return t.Time < time
}

// played is what comes of connecting a block.
type played struct {
	set   model
	spent []api.Coin
	fees  *big.Int
	place int
	fault api.Errno
}

// wantConnect is Connect and Would by the words of the chapter: transaction by transaction on a set that is thrown away if there is a fault.
func wantConnect(m model, b api.Block, height int) played {
	if b.Header.Prev != m.tip || height != m.height+1 {
		return played{set: m, fault: 1604}
	}
	if e := wantCheck(b); e != 0 {
		return played{set: m, fault: e}
	}
	if key := b.Txs[0].Ins[0].Key; !strings.HasPrefix(key, four(uint32(height))) || height > 1<<31-1 {
		return played{set: m, fault: 165}
	}
	x := played{set: m, fees: new(big.Int)}
	mine := map[api.Point]struct{}{}
	for place, t := range b.Txs {
		if e := x.add(t, b.Header.Time, height, mine); e != 0 {
			return played{set: m, place: place, fault: e}
		}
	}
	reward := uint64(0)
	for k := 0; k < 13 && height < 1000; k++ {
		if height/64 == k {
			reward = 5000 >> k
		}
	}
	if pays(b.Txs[0]).Cmp(all(reward).Add(all(reward), x.fees)) > 0 {
		return played{set: m, fault: 1602}
	}
	x.set.tip, x.set.height = idOf(b.Header), height
	return x
}

// add plays the next transaction; mine is the points of what the block made and did not spend.
func (x *played) add(t api.Tx, time uint32, height int, mine map[api.Point]struct{}) api.Errno {
	id := txID(t)
	if !isFinal(t, height, time) {
		return 166
	}
	if x.set.hasOf(id) {
		return 167
	}
	if !isBase(t) {
		has := new(big.Int)
		for _, in := range t.Ins {
			at := x.set.find(in.Point)
			if at < 0 {
				return 168
			}
			coin := x.set.spots[at].coin
			if coin.Coinbase && height < coin.Height+4 {
				return 169
			}
			if !opens(coin.Out.Lock, in.Key) {
				return 1600
			}
			has.Add(has, all(coin.Out.Value))
			x.set = x.set.without(in.Point)
			if _, own := mine[in.Point]; !own {
				x.spent = append(x.spent, coin)
			}
			delete(mine, in.Point)
		}
		if pays(t).Cmp(has) > 0 {
			return 1601
		}
		x.fees.Add(x.fees, has.Sub(has, pays(t)))
	}
	for i, out := range t.Outs {
		p := api.Point{Tx: id, Index: uint32(i)}
		x.set = x.set.with(p, api.Coin{Out: out, Height: height, Coinbase: isBase(t)})
		mine[p] = struct{}{}
	}
	return 0
}

// wantDisconnect is Disconnect by the words of the chapter.
func wantDisconnect(m model, b api.Block, u api.Undo, height int) (model, api.Errno) {
	if m.tip != idOf(b.Header) || m.height != height || height == 0 {
		return m, 1604
	}
	own := model{}
	var points []api.Point
	for _, t := range b.Txs {
		for _, in := range t.Ins {
			if isBase(t) {
				continue
			}
			if !own.has(in.Point) {
				points = append(points, in.Point)
			}
			own = own.without(in.Point)
		}
		for i, out := range t.Outs {
			if toldFault(t) != 0 {
				return m, 1603
			}
			own = own.with(api.Point{Tx: txID(t), Index: uint32(i)}, api.Coin{Out: out, Height: height, Coinbase: isBase(t)})
		}
	}
	back := m
	for _, s := range own.spots {
		if !slices.Contains(m.spots, s) {
			return m, 1603
		}
		back = back.without(s.point)
	}
	if len(points) != len(u.Spent) {
		return m, 1603
	}
	for i, p := range points {
		if m.has(p) || slices.Index(points, p) != i || u.Spent[i].Height < 0 || u.Spent[i].Height >= height {
			return m, 1603
		}
		back = back.with(p, u.Spent[i])
	}
	back.tip, back.height = b.Header.Prev, height-1
	return back, 0
}

// walk goes along bytes, and throws the error of the first part that is wrong.
type walk struct{ rest string }

func (w *walk) part(n int) string {
	if len(w.rest) < n {
		panic(api.ErrCut)
	}
	s := w.rest[:n]
	w.rest = w.rest[n:]
	return s
}

func (w *walk) four() uint64 { return uint64(binary.LittleEndian.Uint32([]byte(w.part(4)))) }

func (w *walk) count(most uint64) uint64 {
	if w.rest == "" {
		panic(api.ErrCut)
	}
	long := max(1, map[byte]int{253: 3, 254: 5, 255: 9}[w.rest[0]])
	s := w.part(long)
	n := uint64(s[0])
	if long > 1 {
		n = binary.LittleEndian.Uint64([]byte(s[1:] + "\x00\x00\x00\x00\x00\x00")[:8])
	}
	if count(n) != s {
		panic(api.ErrForm)
	}
	if n > most {
		panic(api.ErrMore)
	}
	return n
}

// coin takes a coin whose height is not above the tallest, and whose value is not above the dearest.
func (w *walk) coin(tallest uint64, tall api.Errno, dearest uint64) api.Coin {
	height := w.four()
	if height > tallest {
		panic(tall)
	}
	base := w.part(1)
	if base > "\x01" {
		panic(api.ErrForm)
	}
	value := binary.LittleEndian.Uint64([]byte(w.part(8)))
	if value > dearest {
		panic(api.ErrMore)
	}
	lock := w.part(int(w.count(520)))
	return api.Coin{Out: api.Out{Value: value, Lock: lock}, Height: int(height), Coinbase: base == "\x01"}
}

func (w *walk) end() {
	if w.rest != "" {
		panic(api.ErrMore)
	}
}

// caught turns what a walk threw into an error.
func caught(e *api.Errno) {
	if fault := recover(); fault != nil {
		*e = fault.(api.Errno)
	}
}

// wantOf is Of by the words of the chapter.
func wantOf(s string) (m model, e api.Errno) {
	defer caught(&e)
	w := &walk{s}
	m.tip = api.Hash([]byte(w.part(32)))
	tall := w.four()
	if tall > 1<<31-1 {
		panic(api.ErrMore)
	}
	m.height = int(tall)
	n := w.count(1<<64 - 1)
	for i := range n {
		p := api.Point{Tx: api.Hash([]byte(w.part(32))), Index: uint32(w.four())}
		if i > 0 {
			last := m.spots[i-1].point
			if n := bytes.Compare(last.Tx[:], p.Tx[:]); n > 0 || n == 0 && last.Index >= p.Index {
				panic(api.ErrForm)
			}
		}
		m.spots = append(m.spots, spot{p, w.coin(tall, api.ErrForm, 1000000)})
	}
	w.end()
	return m, 0
}

// wantEncode is Encode by the words of the chapter.
func wantEncode(u api.Undo) (string, api.Errno) {
	if len(u.Spent) > 8192 {
		return "", 3
	}
	var s strings.Builder
	s.WriteString(count(uint64(len(u.Spent))))
	for _, c := range u.Spent {
		if len(c.Out.Lock) > 520 {
			return "", 100
		}
		if c.Height < 0 || c.Height > 1<<31-1 {
			return "", 1
		}
		s.WriteString(coinText(c))
	}
	return s.String(), 0
}

// wantDecode is Decode by the words of the chapter.
func wantDecode(s string) (u api.Undo, e api.Errno) {
	defer caught(&e)
	w := &walk{s}
	var spent []api.Coin
	for range w.count(8192) {
		spent = append(spent, w.coin(1<<31-1, api.ErrMore, 1<<64-1))
	}
	w.end()
	return api.Undo{Spent: spent}, 0
}
