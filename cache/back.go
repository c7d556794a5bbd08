package cache

import (
	"slices"

	"spindle/api"
)

// nowhere is the sector that Back answers if it wrote none.
const nowhere = -1

// Flush makes all safe, the notes behind the data (P5.4).
func (c *Cache) Flush() api.Errno {
	if !c.usable() {
		return api.ErrNil
	}
	data := c.dirtyLines(func(l *line) bool { return !l.note })
	if e := c.settle(data); e != api.OK {
		return e
	}
	notes := c.dirtyLines(func(l *line) bool { return l.note })
	if len(notes) == 0 {
		return api.OK
	}
	return c.settle(notes)
}

// Through makes these sectors safe (P5.5).
func (c *Cache) Through(sectors []int) api.Errno {
	if !c.usable() {
		return api.ErrNil
	}
	var dirty []int
	noted := false
	for _, sector := range sectors {
		if !c.has(sector) {
			return api.ErrSector
		}
		if l := c.lines[sector]; l != nil && l.dirty {
			dirty = append(dirty, sector)
			noted = noted || l.note
		}
	}
	if noted {
		return c.Flush()
	}
	slices.Sort(dirty)
	return c.settle(slices.Compact(dirty))
}

// Back writes back the dirty data line that was used least lately (P5.6).
func (c *Cache) Back() (int, api.Errno) {
	if !c.usable() {
		return nowhere, api.ErrNil
	}
	sector, found := c.leastLately(func(l *line) bool { return l.dirty && !l.note })
	if !found {
		return nowhere, api.OK
	}
	if e := c.writeBack(sector); e != api.OK {
		return nowhere, e
	}
	return sector, api.OK
}

// dirtyLines gives the sectors of the dirty lines that pick picks, rising.
func (c *Cache) dirtyLines(pick func(*line) bool) []int {
	var sectors []int
	for sector, l := range c.lines {
		if l.dirty && pick(l) {
			sectors = append(sectors, sector)
		}
	}
	slices.Sort(sectors)
	return sectors
}

// settle writes these lines back in their order, and makes safe all that waits at the disk.
func (c *Cache) settle(sectors []int) api.Errno {
	for _, sector := range sectors {
		if e := c.writeBack(sector); e != api.OK {
			return e
		}
	}
	if c.disk.Barrier() != api.OK {
		return api.ErrIO
	}
	return api.OK
}

// writeBack hands a line's bytes to the disk. With an error the line stays dirty, though its bytes may have landed: nobody knows.
func (c *Cache) writeBack(sector int) api.Errno {
	l := c.lines[sector]
	if c.disk.Write(sector, l.data[:]) != api.OK {
		return api.ErrIO
	}
	l.dirty = false
	c.stats.Written++
	return api.OK
}
