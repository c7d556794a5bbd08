package volume

import "spindle/api"

// Write lays bytes down from off on; with ErrIO the byte at fault (P7.4).
func (v *Volume) Write(off uint64, b []byte) (uint64, api.Errno) {
	n := uint64(len(b))
	if e := v.refusal(off, n); e != api.OK {
		return 0, e
	}
	return v.walk(off, n, func(p part) api.Errno {
		laid, e := v.look(p)
		if e != api.OK {
			return e
		}
		data := make([]byte, api.SectorSize)
		if laid && !p.whole() {
			if data, e = v.cache.Read(p.data); e != api.OK {
				return e
			}
		}
		copy(data[p.lo:p.hi], b[p.from:])
		return v.layDown(p, data, laid)
	})
}

// Zero makes n bytes 0; with keep they are laid out then, else whole sectors become holes; with ErrIO the byte at fault (P7.5).
func (v *Volume) Zero(off uint64, n uint64, keep bool) (uint64, api.Errno) {
	if e := v.refusal(off, n); e != api.OK {
		return 0, e
	}
	if keep {
		return v.Write(off, make([]byte, n))
	}
	return v.walk(off, n, func(p part) api.Errno {
		laid, e := v.look(p)
		switch {
		case e != api.OK || !laid:
			return e
		case p.whole():
			return v.punch(p)
		}
		data, e := v.cache.Read(p.data)
		if e != api.OK {
			return e
		}
		clear(data[p.lo:p.hi])
		return v.cache.Write(p.data, data)
	})
}

// Trim makes the whole sectors among n bytes holes; with ErrIO the byte at fault (P7.6).
func (v *Volume) Trim(off uint64, n uint64) (uint64, api.Errno) {
	if e := v.refusal(off, n); e != api.OK {
		return 0, e
	}
	return v.walk(off, n, func(p part) api.Errno {
		if !p.whole() {
			return api.OK
		}
		laid, e := v.look(p)
		if e != api.OK || !laid {
			return e
		}
		return v.punch(p)
	})
}

// Sync makes n bytes safe (P7.7). All its sectors are there, so that ErrIO is the one error that the cache can answer.
func (v *Volume) Sync(off uint64, n uint64) api.Errno {
	if e := v.refusal(off, n); e != api.OK || n == 0 {
		return e
	}
	var sectors []int
	v.walk(off, n, func(p part) api.Errno {
		sectors = append(sectors, p.data, p.note)
		return api.OK
	})
	return v.cache.Through(sectors)
}

// Flush makes all safe (P7.7).
func (v *Volume) Flush() api.Errno {
	if !v.usable() {
		return api.ErrNil
	}
	return v.cache.Flush()
}
