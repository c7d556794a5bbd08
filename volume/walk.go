package volume

import "spindle/api"

// part is what a range has of one sector that it touches.
type part struct {
	data   int // the sector on the disk
	note   int // the sector on the disk that has its bit
	bit    int // which one there
	lo, hi int // the range's bytes in it, from lo on, ahead of hi
	from   int // where these begin in the range
}

// whole tells whether the range covers all of the sector.
func (p part) whole() bool { return p.hi-p.lo == api.SectorSize }

// laid tells whether the sector's bit in its note sector is 1.
func (p part) laid(note []byte) bool { return note[p.bit/8]&p.value() != 0 }

// value is the sector's bit in its byte.
func (p part) value() byte { return 128 >> (p.bit % 8) }

// walk does something with each sector that a range touches, rising, until it goes wrong: then it tells the byte at fault, and what was done ahead of it stays done. The range lies in the volume, so that its numbers are small.
func (v *Volume) walk(off, n uint64, do func(part) api.Errno) (uint64, api.Errno) {
	if n == 0 {
		return 0, api.OK
	}
	at, e := uint64(0), api.OK
	begin, end := int(off), int(off+n)
	first, last := begin/api.SectorSize, (end-1)/api.SectorSize
notes:
	for k := first / noteBits; k <= last/noteBits; k++ {
		for s := max(first, k*noteBits); s <= min(last, (k+1)*noteBits-1); s++ {
			lo, hi := max(begin, s*api.SectorSize), min(end, (s+1)*api.SectorSize)
			p := part{
				data: v.data.First + s,
				note: v.notes + k,
				bit:  s % noteBits,
				lo:   lo - s*api.SectorSize,
				hi:   hi - s*api.SectorSize,
				from: lo - begin,
			}
			if do(p) != api.OK {
				at, e = uint64(lo), api.ErrIO
				break notes
			}
		}
	}
	return at, e
}

// look tells whether a sector is laid out.
func (v *Volume) look(p part) (bool, api.Errno) {
	note, e := v.cache.Read(p.note)
	if e != api.OK {
		return false, e
	}
	return p.laid(note), api.OK
}

// layDown gives a sector new bytes. Its bit comes behind them, so that it is never 1 for bytes that are not there.
func (v *Volume) layDown(p part, b []byte, laid bool) api.Errno {
	if e := v.cache.Write(p.data, b); e != api.OK || laid {
		return e
	}
	return v.note(p, func(old byte) byte { return old | p.value() })
}

// punch makes a sector a hole.
func (v *Volume) punch(p part) api.Errno {
	return v.note(p, func(old byte) byte { return old &^ p.value() })
}

// note changes the byte that has a sector's bit. The note sector is read anew, whatever a look at it told.
func (v *Volume) note(p part, change func(byte) byte) api.Errno {
	note, e := v.cache.Read(p.note)
	if e != api.OK {
		return e
	}
	note[p.bit/8] = change(note[p.bit/8])
	return v.cache.Write(p.note, note)
}
