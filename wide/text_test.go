package wide

import (
	"fmt"
	"math/big"
	"math/rand"
	"strings"
	"testing"

	"bedrock/api"
)

const greatestText = "115792089237316195423570985008687907853269984665640564039457584007913129639935"

// begins tells whether a text is the beginning of the text of a number, by the chapter's words: all beginnings of decimal digits but the empty one are numbers themselves.
func begins(s string) bool {
	if s == "" {
		return true
	}
	n, ok := new(big.Int).SetString(s, 10)
	return ok && fits(n) && n.String() == s
}

// wantParse is what Parse answers by the chapter's words.
func wantParse(s string) (api.Wide, int, api.Errno) {
	for i := range len(s) {
		if !begins(s[:i+1]) {
			return api.Wide{}, i, api.ErrDigits
		}
	}
	if s == "" {
		return api.Wide{}, 0, api.ErrDigits
	}
	n, _ := new(big.Int).SetString(s, 10)
	return wideOf(n), 0, api.OK
}

// checkParse holds what Parse answers against the chapter's words.
func checkParse(t *testing.T, s string) {
	t.Helper()
	got, at, e := Parse(s)
	if want, place, fault := wantParse(s); got != want || at != place || e != fault {
		t.Fatalf("Parse(%q): %x, %d, %d, not %x, %d, %d", s, got, at, e, want, place, fault)
	}
}

// Promises 4.4 and 4.5: decimal digits without a 0 ahead, and Parse of them is the number.
func TestText(t *testing.T) {
	numbers := many(40, 1500)
	ten := big.NewInt(1)
	for range 78 {
		numbers = append(numbers, wideOf(ten), wideOf(new(big.Int).Sub(ten, big.NewInt(1))), wideOf(new(big.Int).Add(ten, big.NewInt(1))))
		ten = new(big.Int).Mul(ten, big.NewInt(10))
	}
	for _, a := range numbers {
		s := Text(a)
		if want := bigOf(a).String(); s != want {
			t.Fatalf("Text(%x): %s, not %s", a, s, want)
		}
		if back, at, e := Parse(s); back != a || at != 0 || e != api.OK {
			t.Fatalf("Parse(%s): %x, %d, %d", s, back, at, e)
		}
	}
	if got := Text(api.Wide{}); got != "0" {
		t.Errorf("Text(0): %s", got)
	}
}

// The chapter's example 2.
func TestExampleTexts(t *testing.T) {
	if got := Text(greatest()); got != greatestText {
		t.Errorf("Text of the greatest: %s", got)
	}
	if got, at, e := Parse(greatestText); got != greatest() || at != 0 || e != api.OK {
		t.Errorf("Parse of the greatest: %x, %d, %d", got, at, e)
	}
	for _, x := range []struct {
		s  string
		at int
	}{
		{greatestText[:77] + "6", 77},
		{"01", 1},
		{"", 0},
		{"00", 1},
		{"0x1", 1},
		{"-1", 0},
		{"+1", 0},
		{" 1", 0},
		{"1 ", 1},
		{"1\n", 1},
		{"12a4", 2},
		{"1.0", 1},
		{"1_0", 1},
		{"\u0661", 0},
		{greatestText + "0", 78},
		{greatestText[:77] + "5x", 78},
		{greatestText[:77] + "x", 77},
		{strings.Repeat("9", 78), 77},
		{strings.Repeat("9", 1000), 77},
		{strings.Repeat("1", 1000), 78},
		{strings.Repeat("0", 1000), 1},
	} {
		if got, at, e := Parse(x.s); got != (api.Wide{}) || at != x.at || e != api.ErrDigits {
			t.Errorf("Parse(%q): %x, %d, %d, not at %d", x.s, got, at, e, x.at)
		}
		checkParse(t, x.s)
	}
}

// Promise 4.4: a byte that is no digit, at every place of texts of 1, of 77 and of 78 digits, and behind them.
func TestParseOtherBytes(t *testing.T) {
	for _, s := range []string{"0", "7", "10", greatestText[:77], greatestText} {
		for at := range len(s) {
			for b := range 256 {
				checkParse(t, s[:at]+string([]byte{byte(b)})+s[at+1:])
			}
			checkParse(t, s[:at])
		}
		for b := range 256 {
			checkParse(t, s+string([]byte{byte(b)}))
		}
	}
}

// Promise 4.4: texts of 77, 78 and 79 digits about the greatest number.
func TestParseAboutTheGreatest(t *testing.T) {
	most := bigOf(greatest())
	for more := int64(-30); more <= 30; more++ {
		n := new(big.Int).Add(most, big.NewInt(more))
		for _, s := range []string{n.String(), n.String() + "0", "0" + n.String(), n.String()[:77], "1" + n.String(), "9" + n.String()[1:]} {
			checkParse(t, s)
		}
	}
	for at := range len(greatestText) { // each digit one more and one less
		for _, step := range []int{-1, 1} {
			s := []byte(greatestText)
			s[at] = byte(int(s[at]) + step)
			checkParse(t, string(s))
			checkParse(t, string(s)+"0")
		}
	}
	// past 2^256 by the product of ten, and past it by the digit alone
	tenth := most.String()[:77]
	for digit := range 10 {
		checkParse(t, fmt.Sprint(tenth, digit))
	}
	next, _ := new(big.Int).SetString(tenth, 10)
	next.Add(next, big.NewInt(1))
	for digit := range 10 {
		checkParse(t, fmt.Sprint(next, digit))
	}
}

// Promise 4.4: texts by lots, of digits and few other bytes.
func TestParseByLots(t *testing.T) {
	lots := rand.New(rand.NewSource(41))
	for range 5000 {
		s := make([]byte, lots.Intn(82))
		for i := range s {
			s[i] = "0123456789"[lots.Intn(10)]
		}
		if len(s) > 0 && lots.Intn(2) == 0 {
			s[0] = '1'
		}
		if len(s) > 0 && lots.Intn(3) == 0 {
			s[lots.Intn(len(s))] = byte(lots.Intn(256))
		}
		checkParse(t, string(s))
	}
}

// Promise 4.4: 64 small digits to the base 16, the highest first.
func TestHex(t *testing.T) {
	for _, a := range many(42, 1000) {
		if got, want := Hex(a), fmt.Sprintf("%064x", bigOf(a)); got != want {
			t.Fatalf("Hex(%x): %s, not %s", a, got, want)
		}
	}
	if got := Hex(From(0xabc)); got != strings.Repeat("0", 61)+"abc" {
		t.Errorf("Hex(0xabc): %s", got)
	}
	if got := Hex(greatest()); got != strings.Repeat("f", 64) {
		t.Errorf("Hex of the greatest: %s", got)
	}
}
