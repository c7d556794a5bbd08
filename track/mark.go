package track

import (
	"slices"

	"spindle/api"
)

const markBits = 8 * api.SectorSize // marks of one mark sector, a sector of the track each

// spot is where a sector's mark stands.
type spot struct {
	sector int // the mark sector on the disk
	index  int // of the byte there
	value  byte
}

func (t tracked) spotOf(s int) spot {
	return spot{sector: t.marks.First + s/markBits, index: s % markBits / 8, value: 128 >> (s % 8)}
}

// marked tells whether the mark is 1 in its mark sector.
func (p spot) marked(sector []byte) bool { return sector[p.index]&p.value != 0 }

// reach is the sectors that a call has to do with, from first on, ahead of end, and the first byte of its range. The range lies in the track, so that its numbers are small.
type reach struct {
	off        uint64
	first, end int
}

// touched are the sectors that have one of n bytes from off on, of which there is at least one.
func touched(off, n uint64) reach {
	return reach{off, int(off / api.SectorSize), int((off+n-1)/api.SectorSize) + 1}
}

// covered are the sectors all of whose bytes are among n bytes from off on; first may lie behind end, if there is none.
func covered(off, n uint64) reach {
	return reach{off, int((off + api.SectorSize - 1) / api.SectorSize), int((off + n) / api.SectorSize)}
}

// has tells whether n bytes from off on, at least one, lie in the track.
func (t tracked) has(off, n uint64) bool {
	size := t.Size()
	return n > 0 && off <= size && n <= size-off
}

// walk reads the mark sector of each sector, rising, and does something with it, until it goes wrong: then it tells the byte at fault.
func (t tracked) walk(r reach, do func(s int, marks []byte) api.Errno) (uint64, api.Errno) {
	for s := r.first; s < r.end; s++ {
		marks, e := t.cache.Read(t.spotOf(s).sector)
		if e == api.OK {
			e = do(s, marks)
		}
		if e != api.OK {
			return max(r.off, uint64(s)*api.SectorSize), api.ErrIO
		}
	}
	return 0, api.OK
}

// mark gives each sector its mark, and makes the marks safe unless they are; with ErrIO it tells the byte at fault.
func (t tracked) mark(r reach) (uint64, api.Errno) {
	var sectors []int
	at, e := t.walk(r, func(s int, marks []byte) api.Errno {
		p := t.spotOf(s)
		sectors = append(sectors, p.sector)
		if p.marked(marks) {
			return api.OK
		}
		marks[p.index] |= p.value
		return t.cache.Write(p.sector, marks)
	})
	if e != api.OK {
		return at, e
	}
	// A mark may stand in the cache and have failed to become safe, so that to have written none is not enough.
	sectors = slices.Compact(sectors)
	if slices.ContainsFunc(sectors, t.waits) && t.cache.Through(sectors) != api.OK {
		return r.off, api.ErrIO
	}
	return 0, api.OK
}

// waits tells whether a crash could take a mark sector's bytes back.
func (t tracked) waits(sector int) bool { return !t.cache.Safe(sector) }

// Marked tells whether a sector is marked, and leaves all as it is (P19.6).
func (t *Track) Marked(s int) (bool, api.Errno) {
	own := t.own()
	size := own.Size()
	switch {
	case size == 0:
		return false, api.ErrNil // a volume that a call made has at least a sector
	case s < 0 || uint64(s) >= size/api.SectorSize:
		return false, api.ErrArg
	}
	p := own.spotOf(s)
	marks, e := own.cache.Peek(p.sector)
	return e == api.OK && p.marked(marks), e
}

// Clear takes all marks away; true: from now on they tell what differs from the bytes of now (P19.5). All of these are safe ahead of it, so that no crash brings back others, unmarked.
func (t *Track) Clear() (bool, api.Errno) {
	own := t.own()
	if e := own.Flush(); e != api.OK {
		return false, e
	}
	for k := range own.marks.Count {
		if own.wipe(own.marks.First+k) != api.OK {
			return true, api.ErrIO
		}
	}
	return true, own.Flush()
}

// wipe takes the marks of one mark sector away, if it has any.
func (t tracked) wipe(sector int) api.Errno {
	marks, e := t.cache.Read(sector)
	none := make([]byte, api.SectorSize)
	if e != api.OK || slices.Equal(marks, none) {
		return e
	}
	return t.cache.Write(sector, none)
}
