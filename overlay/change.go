package overlay

import "spindle/api"

// Write lays bytes down from off on; with ErrIO the byte at fault (P20.4).
func (o *Overlay) Write(off uint64, b []byte) (uint64, api.Errno) {
	n := uint64(len(b))
	if e := o.refusal(off, n); e != api.OK {
		return 0, e
	}
	return walk(off, n, func(p part) api.Errno { return o.lay(p, b[p.from:]) })
}

// Zero makes n bytes 0; with keep they are laid out then, else whole sectors become holes; with ErrIO the byte at fault (P20.5).
func (o *Overlay) Zero(off uint64, n uint64, keep bool) (uint64, api.Errno) {
	if e := o.refusal(off, n); e != api.OK {
		return 0, e
	}
	return walk(off, n, func(p part) api.Errno {
		if p.whole() && !keep {
			o.punch(p)
			return api.OK
		}
		return o.lay(p, make([]byte, api.SectorSize))
	})
}

// Trim makes the whole sectors among n bytes holes (P20.5). The volume is not asked, so that nothing fails.
func (o *Overlay) Trim(off uint64, n uint64) (uint64, api.Errno) {
	if e := o.refusal(off, n); e != api.OK {
		return 0, e
	}
	return walk(off, n, func(p part) api.Errno {
		if p.whole() {
			o.punch(p)
		}
		return api.OK
	})
}
