package volume

import "spindle/api"

// reader answers a sector of the disk: the cache's Read, or its Peek.
type reader func(sector int) ([]byte, api.Errno)

// Read answers n bytes from off on; with ErrIO the byte at fault (P7.3).
func (v *Volume) Read(off uint64, n int) ([]byte, uint64, api.Errno) {
	if e := v.refusal(off, uint64(n)); e != api.OK {
		return nil, 0, e
	}
	return v.gather(off, n, v.cache.Read, v.cache.Read)
}

// Fetch brings the sectors of n bytes into the cache; with ErrIO the byte at fault (P7.3).
func (v *Volume) Fetch(off uint64, n uint64) (uint64, api.Errno) {
	if e := v.refusal(off, n); e != api.OK {
		return 0, e
	}
	return v.walk(off, n, func(p part) api.Errno {
		_, e := take(p, v.cache.Read, v.cache.Read)
		return e
	})
}

// Peek answers n bytes from off on, and leaves all as it is (P7.9). A note sector is asked for once for all of its bits, since Peek of the cache may go over the whole disk.
func (v *Volume) Peek(off uint64, n int) ([]byte, api.Errno) {
	if e := v.refusal(off, uint64(n)); e != api.OK {
		return nil, e
	}
	b, _, e := v.gather(off, n, oncePerRow(v.cache.Peek), v.cache.Peek)
	return b, e
}

// oncePerRow gives a reader that asks another one only if it was not asked for the same sector just before.
func oncePerRow(read reader) reader {
	last := noSector
	var b []byte
	var e api.Errno
	return func(sector int) ([]byte, api.Errno) {
		if sector != last {
			last = sector
			b, e = read(sector)
		}
		return b, e
	}
}

// gather takes the bytes of a range, sector by sector.
func (v *Volume) gather(off uint64, n int, readNote, readData reader) ([]byte, uint64, api.Errno) {
	out := make([]byte, n)
	at, e := v.walk(off, uint64(n), func(p part) api.Errno {
		b, e := take(p, readNote, readData)
		if e == api.OK {
			copy(out[p.from:], b[p.lo:p.hi])
		}
		return e
	})
	if e != api.OK {
		return nil, at, e
	}
	return out, 0, api.OK
}

// take answers a sector's bytes: of a hole bytes 0, whatever stands there.
func take(p part, readNote, readData reader) ([]byte, api.Errno) {
	note, e := readNote(p.note)
	if e != api.OK {
		return nil, e
	}
	if !p.laid(note) {
		return make([]byte, api.SectorSize), api.OK
	}
	return readData(p.data)
}

// Extents answers the runs of n bytes from off on; with ErrIO the byte at fault (P7.8).
func (v *Volume) Extents(off uint64, n uint64) ([]api.Extent, uint64, api.Errno) {
	if e := v.refusal(off, n); e != api.OK {
		return nil, 0, e
	}
	var runs []api.Extent
	at, e := v.walk(off, n, func(p part) api.Errno {
		laid, e := v.look(p)
		if e != api.OK {
			return e
		}
		runs = join(runs, api.Extent{
			Off:  off + uint64(p.from),
			Len:  uint64(p.hi - p.lo),
			Hole: !laid,
			// Only now: the look may have written lines back, or made all safe.
			Unsaved: !v.cache.Safe(p.data) || !v.cache.Safe(p.note),
		})
		return api.OK
	})
	if e != api.OK {
		return nil, at, e
	}
	return runs, 0, api.OK
}

// join lays a run behind others; into the last of them, if it is like that one.
func join(runs []api.Extent, next api.Extent) []api.Extent {
	if len(runs) > 0 {
		last := &runs[len(runs)-1]
		if last.Hole == next.Hole && last.Unsaved == next.Unsaved {
			last.Len += next.Len
			return runs
		}
	}
	return append(runs, next)
}
