package disk

import (
	"chartulary/api"
)

// keepBits is how many bits Keep has: pending sectors beyond them go by the same bits again.
const keepBits = 64

// Fall is how the power fails: which of the pending sectors become durable, and which one is torn.
type Fall struct {
	Keep uint64
	Tear int // the number of the pending sector, times 64, and how many of its bytes are new; below 0: none is torn
}

// loss is a power loss that is scheduled: the fall comes instead of the act after so many more.
type loss struct {
	acts int
	fall Fall
}

// Up tells whether the power is on.
func (d *Disk) Up() bool {
	return d.works() && d.up
}

// Crash makes the power fail.
func (d *Disk) Crash(f Fall) api.Errno {
	if e := d.powered(); e != api.OK {
		return e
	}
	d.fail(f)
	return api.OK
}

// Arm schedules a power loss, which comes after so many more acts.
func (d *Disk) Arm(acts int, f Fall) api.Errno {
	if e := d.powered(); e != api.OK {
		return e
	}
	if acts < 0 {
		return api.ErrArg
	}
	d.loss, d.armed = loss{acts, f}, true
	return api.OK
}

// Calm cancels a scheduled power loss.
func (d *Disk) Calm() {
	if d.works() {
		d.armed = false
	}
}

// Start switches the power on.
func (d *Disk) Start() api.Errno {
	switch {
	case !d.works():
		return api.ErrState
	case d.up:
		return api.ErrThere
	}
	d.up = true
	return api.OK
}

// Falls is the number of power losses.
func (d *Disk) Falls() int {
	if !d.works() {
		return 0
	}
	return d.falls
}

// act counts an act that nothing else rejects, unless the power fails instead of it.
func (d *Disk) act() api.Errno {
	if d.armed && d.loss.acts == 0 {
		d.fail(d.loss.fall)
		return api.ErrDown
	}
	if d.armed {
		d.loss.acts--
	}
	d.acts++
	return api.OK
}

// fail makes the power fail with f; what was scheduled does not outlast it.
func (d *Disk) fail(f Fall) {
	for k, i := range d.Waiting() {
		d.durable[i] = f.after(k, d.durable[i], d.pending[i])
	}
	clear(d.pending)
	d.up, d.armed = false, false
	d.falls++
}

// after is what is durable after the fall of pending sector number k.
func (f Fall) after(k int, durable, last sector) sector {
	if f.Keep>>(k%keepBits)&1 == 1 {
		// A tear changes nothing then: the bytes behind it are the new ones too.
		return last
	}
	if f.Tear < 0 || f.Tear/api.SectorBytes != k {
		return durable
	}
	n := f.Tear % api.SectorBytes
	copy(durable.bytes[:n], last.bytes[:n])
	durable.stamp = last.stamp
	return durable
}
