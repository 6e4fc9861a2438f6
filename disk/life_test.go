package disk

import (
	"maps"
	"math/rand"
	"testing"

	"bedrock/api"
)

// made tells whether files are those that some first changes of a life make, all sure ones with them, and perhaps a part of one more.
func made(files map[string]string, sure, loose []step) bool {
	for n := range len(loose) + 1 {
		if maps.Equal(files, played(sure, loose[:n])) {
			return true
		}
		if n == len(loose) || loose[n].kind != "write" && loose[n].kind != "append" {
			continue
		}
		for torn := range len(loose[n].s) {
			part := loose[n]
			part.s = part.s[:torn]
			if maps.Equal(files, played(sure, loose[:n], []step{part})) {
				return true
			}
		}
	}
	return false
}

// Promise 7.6: whatever falls, what stays is a beginning of what was done, all that was sure with it; and so again behind each further fall.
func TestBeginnings(t *testing.T) {
	fell := 0
	for seed := range int64(300) {
		lots := rand.New(rand.NewSource(1000 + seed))
		d, m := New(), &model{} // of the model the files alone are taken, for steps that make sense
		var sure, loose []step
		for range 60 {
			if lots.Intn(6) == 0 {
				d.Plan(lotFalls(lots, d.Changes()))
			}
			x := lotStep(lots, m)
			e := x.on(d)
			switch {
			case e == api.ErrDead:
				fell++
				d.Up()
				files := read(d)
				if !made(files, sure, loose) {
					t.Fatalf("lots %d: %q is no beginning of %v, %v", seed, files, sure, loose)
				}
				sure, loose = wrote(files), nil
			case e == api.OK && x.kind == "sync":
				sure, loose = append(sure, loose...), nil
			case e == api.OK:
				loose = append(loose, x)
			}
			m.sure, m.loose = sure, loose
		}
	}
	if fell < 1000 {
		t.Fatalf("the power failed %d times alone", fell)
	}
}

// wrote is steps that make files.
func wrote(files map[string]string) []step {
	var l []step
	for name, s := range files {
		l = append(l, write(name, 0, s))
	}
	return l
}

// Promise 7.6: without falls Read tells what was written, synced or not.
func TestWithoutFalls(t *testing.T) {
	for seed := range int64(100) {
		lots := rand.New(rand.NewSource(2000 + seed))
		d, m := New(), &model{}
		for range 60 {
			x := lotStep(lots, m)
			if x.on(d) == api.OK && x.kind != "sync" {
				m.loose = append(m.loose, x)
			}
			checkFiles(t, d, m.files())
		}
	}
}
