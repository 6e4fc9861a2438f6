package disk

import (
	"math"
	"strconv"
	"strings"
	"testing"

	"bedrock/api"
)

// refuse asks that a step is answered an error, and has changed nothing.
func refuse(t *testing.T, d *Disk, x step, want api.Errno) {
	t.Helper()
	files, sure, made, loose := read(d), d.Sure(), d.Changes(), d.Loose()
	if e := x.on(d); e != want {
		t.Fatalf("%s %.40q %.40q %d: %d, not %d", x.kind, x.name, x.to, x.at, e, want)
	}
	if d.Dead() {
		t.Fatalf("%s let the power fail", x.kind)
	}
	checkFiles(t, d, files)
	checkSure(t, d, sure)
	checkCounts(t, d, made, loose)
}

// read is all files of a disk.
func read(d *Disk) map[string]string {
	files := map[string]string{}
	for _, name := range d.Names() {
		files[name], _ = d.Read(name)
	}
	return files
}

// Promise 7.1: a new disk has nothing.
func TestNew(t *testing.T) {
	d := New()
	if d == nil || d.Dead() || d.Up() {
		t.Fatal("New is no disk that is up")
	}
	checkFiles(t, d, nil)
	checkSure(t, d, nil)
	checkCounts(t, d, 0, 0)
	if other := New(); d == other || other.Write("a", 0, "x") != api.OK || len(d.Names()) != 0 {
		t.Fatal("two new disks are one")
	}
}

// Rule R1: a disk that New did not make is one without files, too.
func TestZeroDisk(t *testing.T) {
	for _, torn := range []int{0, 1} {
		var d Disk
		d.Crash(0, torn)
		if !d.Up() || d.Clone().Append("a", "x") != api.OK {
			t.Fatal("a disk of zeros is none")
		}
		must(t, &d, sync(), write("a", 0, "x"), sync(), remove("a"))
		checkFiles(t, &d, nil)
		checkSure(t, &d, map[string]string{"a": "x"})
	}
}

// Promise 7.1: names of 1 and 32 bytes, and each byte that may stand in one, at each of their places.
func TestNames(t *testing.T) {
	for b := range 256 {
		one := string([]byte{byte(b)})
		for _, name := range []string{one, one + "a", "a" + one, "a" + one + "b", strings.Repeat("a", 31) + one, one + strings.Repeat("z", 31)} {
			d := New()
			want := api.ErrName
			if strings.ContainsAny(one, "abcdefghijklmnopqrstuvwxyz0123456789.-") {
				want = api.OK
			}
			if e := d.Write(name, 0, "x"); e != want {
				t.Fatalf("Write(%q): %d", name, e)
			}
			if want == api.OK {
				checkFiles(t, d, map[string]string{name: "x"})
			}
		}
	}
}

// noNames is texts that are no names.
func noNames() []string {
	return []string{"", strings.Repeat("a", 33), strings.Repeat("a", 1000), "A", "a/b", "a b", "a_b", "\u00e4", "a\x00", "a\n", "\xff"}
}

// Promises 7.1 to 7.3: each call answers ErrName of no name, ahead of all errors but ErrDead.
func TestNoNames(t *testing.T) {
	for _, name := range noNames() {
		d := New()
		must(t, d, write("a", 0, "xyz"), sync(), add("a", "w"))
		for _, x := range []step{
			write(name, 0, "x"), write(name, -1, "x"), write(name, 9, "x"), write(name, 0, strings.Repeat("x", 1<<24+1)),
			add(name, "x"), add(name, ""), add(name, strings.Repeat("x", 1<<24+1)),
			cut(name, 0), cut(name, -1), remove(name),
			move(name, "b"), move("a", name), move("none", name), move(name, name), move(name, "a"),
		} {
			refuse(t, d, x, api.ErrName)
		}
		if s, e := d.Read(name); s != "" || e != api.ErrName {
			t.Errorf("Read(%q): %q, %d", name, s, e)
		}
		for _, at := range []int{0, -1} {
			if s, e := d.Part(name, at, 0); s != "" || e != api.ErrName {
				t.Errorf("Part(%q): %q, %d", name, s, e)
			}
		}
		if n, e := d.Size(name); n != 0 || e != api.ErrName {
			t.Errorf("Size(%q): %d, %d", name, n, e)
		}
	}
}

// Promise 7.1: bytes stand from their place on: within, over the end, behind it; what stood there is gone, the rest stays.
func TestWrite(t *testing.T) {
	for _, x := range []struct {
		at      int
		s, want string
	}{
		{0, "", "abcdef"}, {6, "", "abcdef"}, {3, "", "abcdef"},
		{0, "X", "Xbcdef"}, {2, "XY", "abXYef"}, {5, "X", "abcdeX"},
		{4, "XYZ", "abcdXYZ"}, {6, "XYZ", "abcdefXYZ"}, {0, "UVWXYZ", "UVWXYZ"}, {0, "TUVWXYZ", "TUVWXYZ"},
		{1, "\x00\xff", "a\x00\xffdef"},
	} {
		d := New()
		must(t, d, write("f", 0, "abcdef"), write("f", x.at, x.s))
		checkFiles(t, d, map[string]string{"f": x.want})
		checkCounts(t, d, 2, 2)
	}
}

// Promise 7.1: a file comes to be by a Write or an Append, also of no bytes.
func TestComesToBe(t *testing.T) {
	d := New()
	must(t, d, write("a", 0, ""), add("b", ""), write("c", 0, "x"), add("d", "y"))
	checkFiles(t, d, map[string]string{"a": "", "b": "", "c": "x", "d": "y"})
	checkCounts(t, d, 4, 4)
	must(t, d, add("a", "12"), add("a", "34"), add("d", "z"))
	checkFiles(t, d, map[string]string{"a": "1234", "b": "", "c": "x", "d": "yz"})
}

// Promise 7.1: places at which nothing may be written, ahead of what would be too much.
func TestWritePlaces(t *testing.T) {
	long := strings.Repeat("x", 1<<24+1)
	d := New()
	must(t, d, write("a", 0, "xyz"), sync(), write("e", 0, ""))
	for _, s := range []string{"", "x", long} {
		for _, at := range []int{-1, -2, math.MinInt, 4, 5, 1 << 24, 1<<24 + 1, math.MaxInt, math.MaxInt - 1} {
			refuse(t, d, write("a", at, s), api.ErrArg)
		}
		for _, at := range []int{-1, math.MinInt, 1, 2, math.MaxInt} {
			refuse(t, d, write("e", at, s), api.ErrArg)
			refuse(t, d, write("none", at, s), api.ErrArg)
		}
	}
	must(t, d, write("a", 3, "w"), write("a", 0, "X"))
	checkFiles(t, d, map[string]string{"a": "Xyzw", "e": ""})
}

// Promise 7.1: a file of MaxFileBytes, and one byte more, at once and in parts.
func TestFullFile(t *testing.T) {
	const most = 1 << 24
	whole := strings.Repeat("0123456789abcdef", most/16)
	d := New()
	refuse(t, d, write("a", 0, whole+"x"), api.ErrFull)
	refuse(t, d, add("a", whole+"x"), api.ErrFull)
	must(t, d, write("a", 0, whole))
	for _, x := range []step{add("a", "x"), write("a", most, "x"), write("a", most-1, "xy"), write("a", 1, whole), write("a", most, whole)} {
		refuse(t, d, x, api.ErrFull)
	}
	must(t, d, add("a", ""), write("a", most, ""), write("a", most-1, "X"), write("a", 0, whole[:most-1]+"Y"), cut("a", most), cut("a", most-1))
	refuse(t, d, add("a", "xy"), api.ErrFull)
	must(t, d, add("a", "Z"))
	checkFiles(t, d, map[string]string{"a": whole[:most-1] + "Z"})
	d.Crash(0, most+1)
	d.Up()
	checkFiles(t, d, map[string]string{"a": whole})
}

// fill makes files with the names 0, 1, 2 .. on a disk.
func fill(t *testing.T, d *Disk, n int) map[string]string {
	t.Helper()
	files := map[string]string{}
	for i := range n {
		name := strconv.Itoa(i)
		must(t, d, write(name, 0, name))
		files[name] = name
	}
	return files
}

// Promises 7.1, 7.2: MaxFiles files, and one more: by a Write or an Append, not by a Move, and not of a file that is there.
func TestFullDisk(t *testing.T) {
	d := New()
	files := fill(t, d, 64)
	for _, s := range []string{"", "x"} {
		refuse(t, d, write("more", 0, s), api.ErrFull)
		refuse(t, d, add("more", s), api.ErrFull)
	}
	refuse(t, d, write("more", 1, ""), api.ErrArg)
	must(t, d, add("7", "x"), write("8", 0, "y"), move("9", "more"), move("more", "more"))
	files["7"], files["8"], files["more"] = "7x", "y", "9"
	delete(files, "9")
	checkFiles(t, d, files)
	refuse(t, d, write("9", 0, "x"), api.ErrFull)
	must(t, d, move("7", "8"), write("9", 0, "x"))
	refuse(t, d, write("7", 0, "x"), api.ErrFull)
	must(t, d, remove("9"), add("7", "z"))
	refuse(t, d, add("9", "x"), api.ErrFull)
	files["8"], files["7"] = "7x", "z"
	checkFiles(t, d, files)
	d.Crash(63, 0)
	d.Up()
	must(t, d, write("last", 0, ""))
	refuse(t, d, write("none", 0, ""), api.ErrFull)
}

// Promise 7.1: a cut file has its first bytes; what is written behind it then is not what was cut.
func TestCut(t *testing.T) {
	for n := range 5 {
		d := New()
		must(t, d, write("a", 0, "wxyz"), cut("a", n))
		checkFiles(t, d, map[string]string{"a": "wxyz"[:n]})
		checkCounts(t, d, 2, 2)
		refuse(t, d, cut("a", n+1), api.ErrArg)
		refuse(t, d, write("a", n+1, ""), api.ErrArg)
		must(t, d, add("a", "!"))
		checkFiles(t, d, map[string]string{"a": "wxyz"[:n] + "!"})
	}
	d := New()
	must(t, d, write("a", 0, "wxyz"))
	for _, n := range []int{-1, -2, math.MinInt, 5, 6, math.MaxInt} {
		refuse(t, d, cut("a", n), api.ErrArg)
		refuse(t, d, cut("none", n), api.ErrNone)
	}
	refuse(t, d, cut("none", 0), api.ErrNone)
}

// Promise 7.2: a file moves to a free name, onto another file, onto itself; of what is not there nothing moves.
func TestMove(t *testing.T) {
	d := New()
	must(t, d, write("a", 0, "in a"), write("b", 0, "in b"), move("a", "c"))
	checkFiles(t, d, map[string]string{"b": "in b", "c": "in a"})
	must(t, d, move("c", "b"))
	checkFiles(t, d, map[string]string{"b": "in a"})
	checkCounts(t, d, 4, 4)
	must(t, d, move("b", "b"))
	checkFiles(t, d, map[string]string{"b": "in a"})
	checkCounts(t, d, 5, 5)
	for _, to := range []string{"b", "a", "c", strings.Repeat("x", 32)} {
		refuse(t, d, move("a", to), api.ErrNone)
	}
	must(t, d, sync(), move("b", "a"), write("b", 0, "new"), add("a", "!"))
	checkFiles(t, d, map[string]string{"a": "in a!", "b": "new"})
	checkSure(t, d, map[string]string{"b": "in a"})
}

// Promise 7.2: a removed file is gone, and comes to be anew.
func TestRemove(t *testing.T) {
	d := New()
	refuse(t, d, remove("a"), api.ErrNone)
	must(t, d, write("a", 0, "old"), write("b", 0, ""), remove("a"))
	checkFiles(t, d, map[string]string{"b": ""})
	checkCounts(t, d, 3, 3)
	refuse(t, d, remove("a"), api.ErrNone)
	refuse(t, d, write("a", 1, "x"), api.ErrArg)
	must(t, d, remove("b"))
	checkFiles(t, d, nil)
	must(t, d, add("a", "n"))
	checkFiles(t, d, map[string]string{"a": "n"})
}

// Promise 7.2: behind a Sync nothing is loose; Changes goes on.
func TestSync(t *testing.T) {
	d := New()
	must(t, d, sync(), sync())
	checkCounts(t, d, 0, 0)
	must(t, d, write("a", 0, "x"), add("a", "y"))
	checkCounts(t, d, 2, 2)
	checkSure(t, d, nil)
	must(t, d, sync())
	checkCounts(t, d, 2, 0)
	checkSure(t, d, map[string]string{"a": "xy"})
	must(t, d, cut("a", 1), move("a", "b"), write("c", 0, ""), remove("b"))
	checkCounts(t, d, 6, 4)
	checkFiles(t, d, map[string]string{"c": ""})
	checkSure(t, d, map[string]string{"a": "xy"})
	must(t, d, sync(), sync())
	checkCounts(t, d, 6, 0)
	checkSure(t, d, map[string]string{"c": ""})
}
