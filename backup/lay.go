package backup

import (
	"slices"

	"spindle/api"
	"spindle/extent"
)

// origin says from which archive of a chain a byte comes, and in which of its runs it lies there. Archives are counted from 1 on: of 0 are the bytes that no archive has.
type origin struct {
	archive int
	run     int
}

// laid gives, rising, what is to be seen of archives of one size that are laid one over the other. The Data are the archives' own memory.
func laid(chain []api.Archive) []api.ArchiveRun {
	var l []api.ArchiveRun
	m := origins(chain, 0, len(chain))
	for r := range m.Runs(0, m.Size()) {
		if r.V.archive > 0 {
			from := chain[r.V.archive-1].Runs[r.V.run]
			l = append(l, part(from, uint64(r.Lo), uint64(r.Hi)))
		}
	}
	return l
}

// origins tells from where each byte comes, when the archives from lo on, below hi, are laid one over the other. It goes by halves, since a map takes runs in quickly only while they rise: one archive after the other would be gone through, with all that is there, for each that is laid over it.
func origins(chain []api.Archive, lo, hi int) *extent.Map[origin] {
	if hi-lo == 1 {
		return own(chain[lo], hi)
	}
	mid := lo + (hi-lo)/2
	return covered(origins(chain, lo, mid), origins(chain, mid, hi))
}

// own lays down the runs of one archive alone, which has that number.
func own(a api.Archive, number int) *extent.Map[origin] {
	m, _ := extent.New(int64(a.Size), origin{})
	for n, r := range a.Runs {
		m.Set(int64(r.Off), int64(r.Off+r.Len), origin{number, n})
	}
	return m
}

// covered lays one map over another.
func covered(under, over *extent.Map[origin]) *extent.Map[origin] {
	m, _ := extent.New(under.Size(), origin{})
	for top := range over.Runs(0, over.Size()) {
		if top.V.archive > 0 {
			m.Set(top.Lo, top.Hi, top.V)
			continue
		}
		for r := range under.Runs(top.Lo, top.Hi) {
			m.Set(r.Lo, r.Hi, r.V)
		}
	}
	return m
}

// part gives the bytes of a run from lo on, below hi. Its Data are the run's own memory.
func part(r api.ArchiveRun, lo, hi uint64) api.ArchiveRun {
	out := api.ArchiveRun{Off: lo, Len: hi - lo, Hole: r.Hole}
	if !r.Hole {
		out.Data = r.Data[lo-r.Off : hi-r.Off]
	}
	return out
}

// glued lays a copy of a run behind others: as a part of the last one, if it touches that and is alike.
func glued(l []api.ArchiveRun, r api.ArchiveRun) []api.ArchiveRun {
	if n := len(l); n > 0 && touchAlike(l[n-1], r) {
		last := &l[n-1]
		last.Len += r.Len
		last.Data = append(last.Data, r.Data...)
		return l
	}
	r.Data = slices.Clone(r.Data)
	return append(l, r)
}
