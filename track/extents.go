package track

import "spindle/api"

// Extents answers the runs of n bytes from off on; with ErrIO the byte at fault (P19.4). Two neighbours of the volume's runs are never alike, so that it is enough to cut these where the mark becomes another one.
func (t *Track) Extents(off uint64, n uint64) ([]api.Extent, uint64, api.Errno) {
	own := t.own()
	told, at, e := own.Extents(off, n)
	if len(told) == 0 {
		return nil, at, e
	}
	var runs []api.Extent
	at, e = own.walk(touched(off, n), func(s int, marks []byte) api.Errno {
		begin := uint64(s) * api.SectorSize
		lo, hi := max(off, begin), min(off+n, begin+api.SectorSize)
		if lo == told[0].Off+told[0].Len {
			told = told[1:]
		}
		dirty := own.spotOf(s).marked(marks)
		if lo == told[0].Off || runs[len(runs)-1].Dirty != dirty {
			runs = append(runs, api.Extent{Off: lo, Hole: told[0].Hole, Unsaved: told[0].Unsaved, Dirty: dirty})
		}
		runs[len(runs)-1].Len += hi - lo
		return api.OK
	})
	if e != api.OK {
		return nil, at, e
	}
	return runs, 0, api.OK
}
