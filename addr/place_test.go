package addr

import (
	"math/rand"
	"testing"

	"bedrock/api"
)

// Promise 19.1: an address may be, if its port is not 0 and its IP is not all zeros.
func TestIs(t *testing.T) {
	for at := range 16 {
		a := api.Net{Port: 1}
		a.IP[at] = 1
		if !Is(a) {
			t.Errorf("byte %d of the IP makes no difference", at)
		}
		a.Port = 0
		if Is(a) {
			t.Errorf("port 0 may be, at byte %d", at)
		}
	}
	for _, port := range []uint16{1, 255, 256, 8333, 65535} {
		if !Is(api.Net{IP: [16]byte{255}, Port: port}) {
			t.Errorf("port %d may not be", port)
		}
		if Is(api.Net{Time: 1, Services: 1, Port: port}) {
			t.Errorf("an IP of zeros may be, port %d", port)
		}
	}
	if Is(api.Net{}) || Is(api.Net{Time: 1, Services: 1}) {
		t.Error("an IP of zeros with the port 0 may be")
	}
}

// Promise 19.1: the name is the IP's bytes and the port's, the highest first.
func TestName(t *testing.T) {
	a := api.Net{Time: 7, Services: 9, Port: 0x208d}
	for i := range a.IP {
		a.IP[i] = byte(i + 100)
	}
	for _, c := range []struct {
		a    api.Net
		want string
	}{
		{a, "defghijklmnopqrs\x20\x8d"},
		{api.Net{IP: a.IP}, "defghijklmnopqrs\x00\x00"},
		{api.Net{Port: 1}, "\x00\x00\x00\x00\x00\x00\x00\x00\x00\x00\x00\x00\x00\x00\x00\x00\x00\x01"},
		{api.Net{Time: 1}, "\x00\x00\x00\x00\x00\x00\x00\x00\x00\x00\x00\x00\x00\x00\x00\x00\x00\x00"},
	} {
		if got := Name(c.a); got != c.want {
			t.Errorf("Name(%v): %q", c.a, got)
		}
	}
}

// Promise 19.1: bucket and place are what the secret draws for the Words' bytes.
func TestBucket(t *testing.T) {
	lots := rand.New(rand.NewSource(1))
	seen := map[spot]int{}
	for range 20000 {
		secret := someKeys(lots)
		b := New(secret)
		a, source := someNet(lots), someNet(lots)
		lots.Read(a.IP[:])
		lots.Read(source.IP[:])
		a.Port = uint16(lots.Intn(65536))
		for _, tried := range []bool{false, true} {
			want := wantSpot(secret, a, source, tried)
			if bucket, place := b.Bucket(a, source, tried); bucket != want.bucket || place != want.place {
				t.Fatalf("Bucket(%v, %v, %v): %d, %d, not %v", a, source, tried, bucket, place, want)
			}
			seen[want]++
		}
	}
	if len(seen) != 192 {
		t.Errorf("only %d places are drawn", len(seen))
	}
}

// Promise 19.1: the numbers, as another program worked them out.
func TestBucketNumbers(t *testing.T) {
	b := New(api.Keys{K0: 0x0706050403020100, K1: 0x0f0e0d0c0b0a0908})
	for _, c := range []struct {
		group, from        uint16
		number             uint32
		bucket, place      int
		inTried, triedSeat int
	}{
		{0x0a01, 0x0a01, 1, 2, 4, 1, 1},
		{0x0a01, 0x0b02, 1, 0, 4, 1, 1},
		{0xc0a8, 0x0102, 16909060, 7, 0, 1, 5},
		{0x0000, 0xffff, 4294967295, 2, 5, 4, 0},
		{0xffff, 0x0000, 1, 11, 7, 1, 4},
		{0x2001, 0x0db8, 77, 1, 3, 2, 6},
	} {
		a, source := net(c.group, c.number), net(c.from, 1)
		if bucket, place := b.Bucket(a, source, false); bucket != c.bucket || place != c.place {
			t.Errorf("new: %v: %d, %d", c, bucket, place)
		}
		if bucket, place := b.Bucket(a, source, true); bucket != c.inTried || place != c.triedSeat {
			t.Errorf("tried: %v: %d, %d", c, bucket, place)
		}
	}
}

// Promise 19.1: neither times nor services, nor what is kept, nor the source but its group moves a place; the source's group moves that of the new table alone.
func TestBucketHangsOn(t *testing.T) {
	lots := rand.New(rand.NewSource(2))
	secret := someKeys(lots)
	empty, full := New(secret), New(secret)
	for i := range 500 {
		full.Add(net(uint16(i), uint32(i)), net(uint16(i), 1), 1000000)
	}
	moved := 0
	for i := range 300 {
		a, source := net(uint16(i), uint32(i)), net(uint16(i+7), 5)
		like, near := a, net(uint16(i+7), 9)
		like.Time, like.Services = 5, 77
		near.Port = 9
		for _, tried := range []bool{false, true} {
			bucket, place := empty.Bucket(a, source, tried)
			if x, y := full.Bucket(like, near, tried); x != bucket || y != place {
				t.Fatalf("%d, %d, not %d, %d", x, y, bucket, place)
			}
			if x, y := full.Bucket(a, net(uint16(i+9), 5), tried); x != bucket || y != place {
				if tried {
					t.Fatalf("the source moved %v to %d, %d", a, x, y)
				}
				moved++
			}
		}
	}
	if moved < 200 {
		t.Errorf("another source moved but %d", moved)
	}
}

// Promise 19.6: what one source group tells of one group of addresses stands in at most four new buckets.
func TestFourBuckets(t *testing.T) {
	lots := rand.New(rand.NewSource(3))
	for range 50 {
		b := New(someKeys(lots))
		from, to := uint16(lots.Intn(65536)), uint16(lots.Intn(65536))
		buckets := map[int]bool{}
		for range 300 {
			a := net(to, lots.Uint32())
			source := net(from, lots.Uint32())
			if is, _ := b.Add(a, source, 1000000); is {
				bucket, _ := b.Bucket(a, source, false)
				buckets[bucket] = true
			}
		}
		if n, _ := b.Len(); len(buckets) < 1 || len(buckets) > 4 || n > 32 {
			t.Fatalf("%d in %d buckets", n, len(buckets))
		}
	}
}

// Promise 19.6: all that one source group tells stands in at most four new buckets, whatever its groups; another group's stands in others, too.
func TestOneSource(t *testing.T) {
	lots := rand.New(rand.NewSource(4))
	most := 0
	for range 20 {
		b := New(someKeys(lots))
		buckets := map[int]bool{}
		for range 3000 {
			a, source := net(uint16(lots.Intn(65536)), lots.Uint32()), net(5, lots.Uint32())
			b.Add(a, source, 1000000)
			bucket, _ := b.Bucket(a, source, false)
			buckets[bucket] = true
		}
		n, _ := b.Len()
		if len(buckets) > 4 || n > 32 {
			t.Fatalf("%d in %d buckets", n, len(buckets))
		}
		most = max(most, len(buckets))
	}
	if most != 4 {
		t.Errorf("at most %d buckets", most)
	}
}
