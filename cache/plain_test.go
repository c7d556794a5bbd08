package cache_test

import (
	"slices"

	"spindle/api"
	"spindle/disk"
)

// plain is a cache written down as plainly as the chapter tells of it: a list that is searched, over a disk of its own.
type plain struct {
	d     *disk.Disk
	most  int
	note  func(sector int) bool
	lines []held // the one used least lately first
	stats api.CacheStats
	noted func() // called when a note is handed to the disk, ahead of it
}

type held struct {
	sector int
	data   []byte
	dirty  bool
}

func (p *plain) at(sector int) int {
	return slices.IndexFunc(p.lines, func(h held) bool { return h.sector == sector })
}

// last makes a line the one used last.
func (p *plain) last(i int) {
	h := p.lines[i]
	p.lines = append(slices.Delete(p.lines, i, i+1), h)
}

// written writes a line back.
func (p *plain) written(i int) api.Errno {
	h := &p.lines[i]
	if p.note(h.sector) {
		p.noted()
	}
	e := p.d.Write(h.sector, h.data)
	if e == api.OK {
		h.dirty = false
		p.stats.Written++
	}
	return e
}

func (p *plain) room() api.Errno {
	if len(p.lines) < p.most {
		return api.OK
	}
	i := slices.IndexFunc(p.lines, func(h held) bool { return !(h.dirty && p.note(h.sector)) })
	if i < 0 {
		if e := p.flush(); e != api.OK {
			return e
		}
		i = 0
	}
	if p.lines[i].dirty {
		if e := p.written(i); e != api.OK {
			return e
		}
	}
	p.lines = slices.Delete(p.lines, i, i+1)
	p.stats.Evicted++
	return api.OK
}

func (p *plain) read(sector int) ([]byte, api.Errno) {
	if i := p.at(sector); i >= 0 {
		p.stats.Hits++
		p.last(i)
		return p.lines[len(p.lines)-1].data, api.OK
	}
	p.stats.Misses++
	if e := p.room(); e != api.OK {
		return nil, e
	}
	b, e := p.d.Read(sector)
	if e == api.OK {
		p.lines = append(p.lines, held{sector, b, false})
	}
	return b, e
}

func (p *plain) write(sector int, b []byte) api.Errno {
	if i := p.at(sector); i >= 0 {
		p.stats.Hits++
		p.last(i)
		p.lines[len(p.lines)-1] = held{sector, b, true}
		return api.OK
	}
	p.stats.Misses++
	if e := p.room(); e != api.OK {
		return e
	}
	p.lines = append(p.lines, held{sector, b, true})
	return api.OK
}

// rising writes back all dirty lines that are picked, by rising sector.
func (p *plain) rising(pick func(sector int) bool) api.Errno {
	for sector := range p.d.Sectors() {
		i := p.at(sector)
		if i >= 0 && p.lines[i].dirty && pick(sector) {
			if e := p.written(i); e != api.OK {
				return e
			}
		}
	}
	return api.OK
}

func (p *plain) flush() api.Errno {
	if e := p.rising(func(sector int) bool { return !p.note(sector) }); e != api.OK {
		return e
	}
	if e := p.d.Barrier(); e != api.OK {
		return e
	}
	if !slices.ContainsFunc(p.lines, func(h held) bool { return h.dirty && p.note(h.sector) }) {
		return api.OK
	}
	if e := p.rising(p.note); e != api.OK {
		return e
	}
	return p.d.Barrier()
}

func (p *plain) through(sectors []int) api.Errno {
	for _, sector := range sectors {
		if i := p.at(sector); i >= 0 && p.lines[i].dirty && p.note(sector) {
			return p.flush()
		}
	}
	if e := p.rising(func(sector int) bool { return slices.Contains(sectors, sector) }); e != api.OK {
		return e
	}
	return p.d.Barrier()
}

func (p *plain) back() (int, api.Errno) {
	for i, h := range p.lines {
		if h.dirty && !p.note(h.sector) {
			if e := p.written(i); e != api.OK {
				return -1, e
			}
			return h.sector, api.OK
		}
	}
	return -1, api.OK
}

func (p *plain) told() []api.Line {
	var l []api.Line
	for _, h := range p.lines {
		l = append(l, api.Line{Sector: h.sector, Dirty: h.dirty, Note: p.note(h.sector)})
	}
	return l
}
