package cache

import (
	"iter"
	"slices"

	"spindle/api"
)

// Peek answers a sector's bytes and leaves all as it is (P5.7).
func (c *Cache) Peek(sector int) ([]byte, api.Errno) {
	if e := c.refusal(sector); e != api.OK {
		return nil, e
	}
	if l := c.lines[sector]; l != nil {
		return slices.Clone(l.data[:]), api.OK
	}
	return c.onDisk(sector), api.OK
}

// onDisk tells what the disk would read, by calls that it does not count and that can't fail.
func (c *Cache) onDisk(sector int) []byte {
	for _, p := range slices.Backward(c.disk.Queue()) {
		if p.Sector == sector {
			return p.Data
		}
	}
	return slices.Clone(c.disk.Image()[sector*api.SectorSize:][:api.SectorSize])
}

// Dirty tells whether a sector has a dirty line (P5.7).
func (c *Cache) Dirty(sector int) bool {
	if !c.usable() {
		return false
	}
	l := c.lines[sector]
	return l != nil && l.dirty
}

// Safe tells whether a crash leaves a sector as it is (P5.7).
func (c *Cache) Safe(sector int) bool {
	return c.usable() && c.has(sector) && !c.Dirty(sector) && !c.disk.Waits(sector)
}

// Lines goes through the lines, the one used least lately first (P5.7). They are gathered when a ranging begins, since its body may use the cache.
func (c *Cache) Lines() iter.Seq[api.Line] {
	return func(yield func(api.Line) bool) {
		for _, l := range c.told() {
			if !yield(l) {
				return
			}
		}
	}
}

func (c *Cache) told() []api.Line {
	if !c.usable() {
		return nil
	}
	var told []api.Line
	for sector := range c.order.All() {
		l := c.lines[sector]
		told = append(told, api.Line{Sector: sector, Dirty: l.dirty, Note: l.note})
	}
	return told
}

// Stats answers the counts (P5.7).
func (c *Cache) Stats() api.CacheStats {
	if !c.usable() {
		return api.CacheStats{}
	}
	return c.stats
}
