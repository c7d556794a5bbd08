package overlay

import "spindle/api"

// Read answers n bytes from off on; with ErrIO the byte at fault (P20.3).
func (o *Overlay) Read(off uint64, n int) ([]byte, uint64, api.Errno) {
	if e := o.refusal(off, uint64(n)); e != api.OK {
		return nil, 0, e
	}
	out := make([]byte, n)
	at, e := walk(off, uint64(n), func(p part) api.Errno {
		b, e := o.take(p)
		if e == api.OK {
			copy(out[p.from:], b[p.lo:p.hi])
		}
		return e
	})
	if e != api.OK {
		return nil, at, e
	}
	return out, 0, api.OK
}

// Fetch brings the volume's sectors of n bytes into the cache, those below a sheet left out; with ErrIO the byte at fault (P20.3).
func (o *Overlay) Fetch(off uint64, n uint64) (uint64, api.Errno) {
	if e := o.refusal(off, n); e != api.OK {
		return 0, e
	}
	return walk(off, n, func(p part) api.Errno {
		if _, ok := o.sheets[p.sector]; ok {
			return api.OK
		}
		_, e := o.volume.Fetch(p.first(), api.SectorSize)
		return e
	})
}

// Peek answers n bytes from off on, and leaves all as it is (P20.8). The volume is asked once for the whole range, since each Peek of it may go over the whole disk for a note sector.
func (o *Overlay) Peek(off uint64, n int) ([]byte, api.Errno) {
	if !o.usable() {
		return nil, api.ErrNil
	}
	out, e := o.volume.Peek(off, n)
	if e != api.OK {
		return nil, e
	}
	walk(off, uint64(n), func(p part) api.Errno {
		if own, ok := o.sheets[p.sector]; ok {
			copy(out[p.from:], own.bytes()[p.lo:p.hi])
		}
		return api.OK
	})
	return out, api.OK
}

// Extents answers the runs of n bytes from off on; with ErrIO the byte at fault (P20.7).
func (o *Overlay) Extents(off uint64, n uint64) ([]api.Extent, uint64, api.Errno) {
	if e := o.refusal(off, n); e != api.OK {
		return nil, 0, e
	}
	var runs []api.Extent
	at, e := walk(off, n, func(p part) api.Errno {
		next, e := o.extent(p)
		if e == api.OK {
			next.Off, next.Len = off+uint64(p.from), uint64(p.hi-p.lo)
			runs = join(runs, next)
		}
		return e
	})
	if e != api.OK {
		return nil, at, e
	}
	return runs, 0, api.OK
}

// extent tells whether a sector is a hole, and whether it is unsaved, as a sheet always is.
func (o *Overlay) extent(p part) (api.Extent, api.Errno) {
	if own, ok := o.sheets[p.sector]; ok {
		return api.Extent{Hole: own.hole(), Unsaved: true}, api.OK
	}
	told, _, e := o.volume.Extents(p.first(), api.SectorSize)
	if e != api.OK {
		return api.Extent{}, e
	}
	return api.Extent{Hole: told[0].Hole, Unsaved: told[0].Unsaved}, api.OK
}

// join lays a run behind others; into the last of them, if it is like that one.
func join(runs []api.Extent, next api.Extent) []api.Extent {
	if len(runs) > 0 {
		last := &runs[len(runs)-1]
		if last.Hole == next.Hole && last.Unsaved == next.Unsaved {
			last.Len += next.Len
			return runs
		}
	}
	return append(runs, next)
}
