package disk

import (
	"math"
	"slices"
	"testing"

	"bedrock/api"
)

// Promise 7.3: all bytes of a file, and how many there are; nothing of one that is not there.
func TestRead(t *testing.T) {
	d := New()
	every := make([]byte, 256)
	for i := range every {
		every[i] = byte(i)
	}
	must(t, d, write("all", 0, string(every)), write("empty", 0, ""))
	checkFiles(t, d, map[string]string{"all": string(every), "empty": ""})
	checkCounts(t, d, 2, 2)
	must(t, d, write("gone", 0, "x"), remove("gone"), write("moved", 0, "x"), move("moved", "all"))
	for _, name := range []string{"none", "gone", "moved"} {
		if s, e := d.Read(name); s != "" || e != api.ErrNone {
			t.Errorf("Read(%s): %q, %d", name, s, e)
		}
		if n, e := d.Size(name); n != 0 || e != api.ErrNone {
			t.Errorf("Size(%s): %d, %d", name, n, e)
		}
		for _, at := range []int{0, -1, 1} {
			if s, e := d.Part(name, at, 0); s != "" || e != api.ErrNone {
				t.Errorf("Part(%s, %d): %q, %d", name, at, s, e)
			}
		}
	}
}

// Promise 7.3: all parts of files of 0 to 6 bytes, and all places and lengths that are just no parts.
func TestPart(t *testing.T) {
	whole := "abcdef"
	for long := range len(whole) + 1 {
		d := New()
		must(t, d, write("f", 0, whole), cut("f", long))
		for at := -2; at < 10; at++ {
			for n := -2; n < 10; n++ {
				want, wantErr := "", api.ErrArg
				if at >= 0 && n >= 0 && at+n <= long {
					want, wantErr = whole[at:at+n], api.OK
				}
				if got, e := d.Part("f", at, n); got != want || e != wantErr {
					t.Fatalf("Part(%d, %d) of %d bytes: %q, %d", at, n, long, got, e)
				}
			}
		}
	}
}

// Promise 7.3: great places and lengths, whose sum passes what an int holds.
func TestPartGreat(t *testing.T) {
	d := New()
	must(t, d, write("f", 0, "abc"))
	great := []int{math.MaxInt, math.MaxInt - 1, math.MaxInt - 3, math.MaxInt/2 + 1, 1 << 32, 1 << 24, math.MinInt, math.MinInt + 1, math.MinInt + 3, -1 << 32}
	for _, x := range great {
		for _, y := range slices.Concat(great, []int{-1, 0, 1, 2, 3}) {
			if s, e := d.Part("f", x, y); s != "" || e != api.ErrArg {
				t.Errorf("Part(%d, %d): %q, %d", x, y, s, e)
			}
			if s, e := d.Part("f", y, x); s != "" || e != api.ErrArg {
				t.Errorf("Part(%d, %d): %q, %d", y, x, s, e)
			}
		}
	}
}

// Promise 7.3: names by their bytes, in whatever order the files came to be.
func TestNamesSorted(t *testing.T) {
	sorted := []string{"-", "-a", ".", ".z", "0", "00", "1", "10", "2", "a", "a-b", "a.b", "a0", "aa", "b", "z"}
	for _, first := range []int{0, 5, 11} {
		d := New()
		for i := range sorted {
			must(t, d, write(sorted[(first+i*7)%len(sorted)], 0, ""))
		}
		for range 3 {
			if got := d.Names(); !slices.Equal(got, sorted) {
				t.Fatalf("Names: %q", got)
			}
		}
		must(t, d, sync(), remove("a"), move("0", "zz"))
		d.Crash(1, 0)
		if got, want := d.Names(), slices.DeleteFunc(slices.Clone(sorted), func(s string) bool { return s == "a" }); !slices.Equal(got, want) {
			t.Fatalf("Names of a dead disk: %q", got)
		}
	}
}

// Rule R4: lists and maps that a disk tells are the caller's own.
func TestMemory(t *testing.T) {
	d := New()
	must(t, d, write("a", 0, "x"), write("b", 0, "y"), sync(), add("a", "z"))
	first, second := d.Names(), d.Names()
	for i := range first[:cap(first)] {
		first[:cap(first)][i] = "other"
	}
	if !slices.Equal(second, []string{"a", "b"}) {
		t.Fatal("two lists of names share memory")
	}
	sure := d.Sure()
	sure["a"], sure["c"] = "other", "new"
	delete(sure, "b")
	checkSure(t, d, map[string]string{"a": "x", "b": "y"})
	checkFiles(t, d, map[string]string{"a": "xz", "b": "y"})
	d.Crash(0, 0)
	sure = d.Sure()
	clear(sure)
	d.Up()
	checkFiles(t, d, map[string]string{"a": "x", "b": "y"})
	checkSure(t, d, map[string]string{"a": "x", "b": "y"})
}

// Rule R4: what is read stays as it is when the file does not.
func TestReadStays(t *testing.T) {
	d := New()
	must(t, d, write("a", 0, "abcdef"))
	whole, _ := d.Read("a")
	part, _ := d.Part("a", 1, 3)
	must(t, d, write("a", 0, "UVWXYZ"), cut("a", 2), add("a", "!!!!"))
	if whole != "abcdef" || part != "bcd" {
		t.Fatalf("what was read is %q, %q now", whole, part)
	}
}
