package disk

import "lagoon/api"

// unarmed: just below every number that a disk can be armed with.
const unarmed = -1

// write tells whether a write that nothing else refuses is done, and counts it; where it is not, the power is gone.
func (d *Disk) write() api.Errno {
	if d.armed == 0 {
		d.Off()
		return api.ErrDown
	}
	d.armed = max(d.armed-1, unarmed)
	d.writes++
	return api.OK
}

// Arm lets n more writes be done: at the next one the power goes; below 0: no longer.
func (d *Disk) Arm(n int) {
	if d.On() {
		d.armed = max(n, unarmed)
	}
}

// Off takes the power away.
func (d *Disk) Off() {
	if d.On() {
		d.on, d.armed = false, unarmed
	}
}

// On tells whether there is power.
func (d *Disk) On() bool { return d != nil && d.on }

// Start gives the power back: of each file's unsynced end that many first bytes stay.
func (d *Disk) Start(keep ...int) {
	if d == nil || !d.made || d.on {
		return
	}
	d.on = true
	for i, f := range d.files {
		stay := 0
		if i < len(keep) {
			stay = keep[i]
		}
		f.lose(stay)
	}
}
