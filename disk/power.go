package disk

import (
	"slices"

	"sluiceway/api"
)

// Fail: P9.5.
func (d *Disk) Fail(in int, keep uint64) {
	if d.ready() != api.OK {
		return
	}
	d.failure = failure{set: true, in: max(in, 0), keep: keep}
}

// On: P9.5.
func (d *Disk) On() {
	if !d.Off() {
		return
	}
	stays := d.stays()
	for _, f := range d.files {
		f.restore(stays)
	}
	d.off = false
	d.failure = failure{}
}

// Copy: P9.6.
func (d *Disk) Copy() *Disk {
	if d == nil {
		return nil
	}
	c := *d
	c.files = map[string]*file{}
	for name, f := range d.files {
		c.files[name] = f.clone()
	}
	return &c
}

// step lets happen what may happen, unless the power fails just then.
func (d *Disk) step(happen func()) api.Errno {
	if d.failure.set && d.failure.in == 0 {
		d.off = true
		return api.ErrCrash
	}
	if d.failure.set {
		d.failure.in--
	}
	happen()
	d.steps++
	return api.OK
}

// stays tells of an open write whether it stays. Its number is how many of those that are open, whichever file they are of, were steps ahead of it.
func (d *Disk) stays() func(write) bool {
	var open []int
	for _, f := range d.files {
		for _, w := range f.open {
			open = append(open, w.step)
		}
	}
	slices.Sort(open)
	return func(w write) bool {
		n, _ := slices.BinarySearch(open, w.step)
		return d.failure.keep>>(n%64)&1 == 1
	}
}
