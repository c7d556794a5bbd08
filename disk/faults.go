package disk

import (
	"slices"

	"spindle/api"
)

// anySector is the Sector of a fault that looks at no sector.
const anySector = -1

// Fault arms a fault, behind all others (P3.5).
func (d *Disk) Fault(f api.Fault) api.Errno {
	if !d.usable() {
		return api.ErrNil
	}
	d.mutex.Lock()
	defer d.mutex.Unlock()
	if !d.mayArm(f) || len(d.faults) >= api.MaxFaults {
		return api.ErrFault
	}
	d.faults = append(d.faults, f)
	return api.OK
}

func (d *Disk) mayArm(f api.Fault) bool {
	switch f.Kind {
	case api.FaultRead, api.FaultWrite, api.FaultBarrier:
		return (f.Sector == anySector || d.has(f.Sector)) && f.After >= 0 && f.Times >= 1
	}
	return false
}

// Faults tells the armed faults as they stand (P3.5).
func (d *Disk) Faults() []api.Fault {
	if !d.usable() {
		return nil
	}
	d.mutex.Lock()
	defer d.mutex.Unlock()
	return slices.Clone(d.faults)
}

// fail finds whether an operation fails, and by which fault; it counts down the faults that it meets, and the operation if it fails.
func (d *Disk) fail(kind, sector int) (api.Fault, bool) {
	for i := range d.faults {
		f := &d.faults[i]
		if !touches(*f, kind, sector) {
			continue
		}
		if f.After > 0 {
			f.After--
			continue
		}
		f.Times--
		by := *f
		if f.Times == 0 {
			d.faults = slices.Delete(d.faults, i, i+1)
		}
		d.stats.Failed++
		return by, true
	}
	return api.Fault{}, false
}

// touches tells whether an operation is one that a fault waits for.
func touches(f api.Fault, kind, sector int) bool {
	return f.Kind == kind && (kind == api.FaultBarrier || f.Sector == anySector || f.Sector == sector)
}
