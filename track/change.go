package track

import "spindle/api"

// Write lays bytes down from off on; with ErrIO the byte at fault (P19.3).
func (t *Track) Write(off uint64, b []byte) (uint64, api.Errno) {
	own := t.own()
	return own.change(off, uint64(len(b)), touched, func() (uint64, api.Errno) { return own.Write(off, b) })
}

// Zero makes n bytes 0; with keep they are laid out then, else whole sectors become holes; with ErrIO the byte at fault (P19.3).
func (t *Track) Zero(off uint64, n uint64, keep bool) (uint64, api.Errno) {
	own := t.own()
	return own.change(off, n, touched, func() (uint64, api.Errno) { return own.Zero(off, n, keep) })
}

// Trim makes the whole sectors among n bytes holes; with ErrIO the byte at fault (P19.3).
func (t *Track) Trim(off uint64, n uint64) (uint64, api.Errno) {
	own := t.own()
	return own.change(off, n, covered, func() (uint64, api.Errno) { return own.Trim(off, n) })
}

// change marks the sectors that a call of the volume is about to change, and makes the call. What the volume refuses, and no bytes at all, are left to it: it does nothing with them.
func (t tracked) change(off, n uint64, sectors func(off, n uint64) reach, call func() (uint64, api.Errno)) (uint64, api.Errno) {
	if t.has(off, n) {
		if at, e := t.mark(sectors(off, n)); e != api.OK {
			return at, e
		}
	}
	return call()
}
