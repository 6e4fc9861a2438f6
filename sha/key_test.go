package sha

import (
	"crypto/hmac"
	"crypto/sha256"
	"math/rand"
	"strings"
	"testing"

	"bedrock/api"
)

// Promise 2.4: what is published (RFC 4231), the chapter's example first.
func TestKeyPublished(t *testing.T) {
	for _, x := range []struct{ key, s, want string }{
		{strings.Repeat("\x0b", 20), "Hi There", "b0344c61d8db38535ca8afceaf0bf12b881dc200c9833da726e9376c2e32cff7"},
		{"Jefe", "what do ya want for nothing?", "5bdcc146bf60754e6a042426089575c75a003f089d2739839dec58b964ec3843"},
		{strings.Repeat("\xaa", 20), strings.Repeat("\xdd", 50), "773ea91e36800e46854db8ebd09181a72959098b3ef8c122d9635514ced565fe"},
		{strings.Repeat("\xaa", 131), "Test Using Larger Than Block-Size Key - Hash Key First", "60e431591ee0b67f0d8a26aacbf5b77f8e0bc6213728c5140546040f0ee37f54"},
		{strings.Repeat("\xaa", 131), "This is a test using a larger than block-size key and a larger than block-size data. The key needs to be hashed before being used by the HMAC algorithm.", "9b09ffa71b942fcb27635fbcd5b0e944bfdc63644f0713938a7f51535c3a35e2"},
		{"", "", "b613679a0814d9ec772f95d778c35fc5ff1697c493715653c6c712144292c5ad"},
	} {
		if got := Key(x.key, x.s); got != fromHex(t, x.want) {
			t.Errorf("Key(%x, %q) = %x, not %s", x.key, x.s, got, x.want)
		}
	}
}

// wantKey is HMAC by the library.
func wantKey(key, s string) api.Hash {
	h := hmac.New(sha256.New, []byte(key))
	h.Write([]byte(s))
	return api.Hash(h.Sum(nil))
}

// Promise 2.4: keys of all lengths about the edge, with texts of all lengths about the edges.
func TestKeyOfMany(t *testing.T) {
	lots := rand.New(rand.NewSource(10))
	for _, long := range []int{0, 1, 20, 31, 32, 33, 63, 64, 65, 66, 127, 128, 129, 1000} {
		for _, n := range edges() {
			key, s := someText(lots, long), someText(lots, n)
			if got := Key(key, s); got != wantKey(key, s) {
				t.Fatalf("Key of %d bytes, %d bytes: %x", long, n, got)
			}
		}
	}
}

// Promise 2.4: a key of 65 bytes is as its sum, one of 64 is not; bytes 0 behind a key are as none, up to 64.
func TestKeyEdges(t *testing.T) {
	lots := rand.New(rand.NewSource(11))
	for _, long := range []int{63, 64, 65, 66, 200} {
		key := someText(lots, long)
		sum := wantSum(key)
		if got, want := Key(key, "s") == Key(string(sum[:]), "s"), long > 64; got != want {
			t.Errorf("a key of %d bytes is as its sum: %t", long, got)
		}
	}
	key := someText(lots, 40)
	for zeros := range 30 {
		if got, want := Key(key+strings.Repeat("\x00", zeros), "s") == Key(key, "s"), zeros <= 24; got != want {
			t.Errorf("a key with %d zeros behind it is as without: %t", zeros, got)
		}
	}
}
