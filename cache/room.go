package cache

import "spindle/api"

// makeRoom sees to it that a line can be made.
func (c *Cache) makeRoom() api.Errno {
	if len(c.lines) < c.most {
		return api.OK
	}
	sector, found := c.leastLately(mayGiveWay)
	if !found {
		if e := c.Flush(); e != api.OK {
			return e
		}
		sector, _ = c.leastLately(mayGiveWay)
	}
	return c.giveWay(sector)
}

// mayGiveWay tells whether a line may go at any moment. A dirty note may not: it comes to the disk in a Flush alone, behind the data that it speaks of.
func mayGiveWay(l *line) bool { return !l.dirty || !l.note }

// leastLately finds of the lines that pick picks the one used least lately.
func (c *Cache) leastLately(pick func(*line) bool) (sector int, found bool) {
	for sector := range c.order.All() {
		if pick(c.lines[sector]) {
			return sector, true
		}
	}
	return 0, false
}

// giveWay takes a sector's line out; a dirty one is written back ahead of that, and stays if it can't be.
func (c *Cache) giveWay(sector int) api.Errno {
	if c.lines[sector].dirty {
		if e := c.writeBack(sector); e != api.OK {
			return e
		}
	}
	delete(c.lines, sector)
	c.order.Drop(sector)
	c.stats.Evicted++
	return api.OK
}
