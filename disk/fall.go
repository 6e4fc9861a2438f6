package disk

import (
	"slices"

	"bedrock/api"
)

// Plan lays where the power fails.
func (d *Disk) Plan(l []api.Fall) {
	if d != nil {
		d.plan = slices.Clone(l)
	}
}

// Crash lets the power fail.
func (d *Disk) Crash(keep, torn int) {
	if !d.Dead() {
		d.fall(keep, torn)
	}
}

// Dead tells whether the power is off.
func (d *Disk) Dead() bool { return d == nil || d.dead }

// Up turns the power on.
func (d *Disk) Up() bool {
	if d == nil || !d.dead {
		return false
	}
	d.dead = false
	return true
}

// strikes lets the power fail, if the plan says so of this call: a Sync, or one that would make the next change.
func (d *Disk) strikes(sync bool) bool {
	here := func(f api.Fall) bool { return f.At == d.made && f.Sync == sync }
	i := slices.IndexFunc(d.plan, here)
	if i < 0 {
		return false
	}
	f := d.plan[i]
	d.plan = slices.Delete(d.plan, i, i+1)
	d.fall(f.Keep, f.Torn)
	return true
}

// fall plays what stays of the loose changes on the sure files, from which all goes on.
func (d *Disk) fall(keep, torn int) {
	keep = min(max(keep, 0), len(d.loose))
	d.sure.play(d.loose[:keep]...)
	if keep < len(d.loose) {
		if part, stays := d.loose[keep].torn(torn); stays {
			d.sure.play(part)
		}
	}
	d.now, d.loose, d.dead = d.sure.clone(), nil, true
}
