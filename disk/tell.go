package disk

import (
	"maps"
	"slices"

	"spindle/api"
)

// Queue tells the writes that wait, in their order (P3.7).
func (d *Disk) Queue() []api.Put {
	if !d.usable() {
		return nil
	}
	d.mutex.Lock()
	defer d.mutex.Unlock()
	var told []api.Put
	for _, p := range d.queue {
		told = append(told, api.Put{Sector: p.sector, Data: slices.Clone(p.data[:])})
	}
	return told
}

// Waits tells whether a write of this sector waits (P3.7).
func (d *Disk) Waits(sector int) bool {
	if !d.usable() {
		return false
	}
	d.mutex.Lock()
	defer d.mutex.Unlock()
	_, waits := d.last[sector]
	return waits
}

// Image answers the safe bytes of all sectors (P3.7).
func (d *Disk) Image() []byte {
	if !d.usable() {
		return nil
	}
	d.mutex.Lock()
	defer d.mutex.Unlock()
	image := make([]byte, d.sectors*api.SectorSize)
	for n, data := range d.safe {
		copy(image[n*api.SectorSize:], data[:])
	}
	return image
}

// Stats answers the counts (P3.7).
func (d *Disk) Stats() api.DiskStats {
	if !d.usable() {
		return api.DiskStats{}
	}
	d.mutex.Lock()
	defer d.mutex.Unlock()
	return d.stats
}

// Copy gives another disk that is as this one, and apart from it (P3.8).
func (d *Disk) Copy() *Disk {
	if !d.usable() {
		return nil
	}
	d.mutex.Lock()
	defer d.mutex.Unlock()
	return &Disk{
		sectors: d.sectors,
		safe:    maps.Clone(d.safe),
		queue:   slices.Clone(d.queue),
		last:    maps.Clone(d.last),
		faults:  slices.Clone(d.faults),
		stats:   d.stats,
	}
}
