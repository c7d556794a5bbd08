package overlay

import "spindle/api"

// sheet is what a sector has of its own: its 512 bytes, or none, if it is a hole.
type sheet []byte

func (s sheet) hole() bool { return len(s) == 0 }

// bytes are those that the sector reads as, in new memory.
func (s sheet) bytes() []byte {
	b := make([]byte, api.SectorSize)
	copy(b, s)
	return b
}

// part is what a range has of one sector that it touches.
type part struct {
	sector int
	lo, hi int // the range's bytes in it, from lo on, ahead of hi
	from   int // where these begin in the range
}

// whole tells whether the range covers all of the sector.
func (p part) whole() bool { return p.hi-p.lo == api.SectorSize }

// first is where the sector begins in the volume, to which it is always named whole.
func (p part) first() uint64 { return uint64(p.sector) * api.SectorSize }

// walk does something with each sector that a range touches, rising, until the volume fails: then it tells the byte at fault, and what was done ahead of it stays done. The range lies in the volume, so that its numbers are small.
func walk(off, n uint64, do func(part) api.Errno) (uint64, api.Errno) {
	begin, end := int(off), int(off+n)
	for lo := begin; lo < end; {
		first := lo - lo%api.SectorSize
		hi := min(end, first+api.SectorSize)
		p := part{sector: lo / api.SectorSize, lo: lo - first, hi: hi - first, from: lo - begin}
		if do(p) != api.OK {
			return uint64(lo), api.ErrIO
		}
		lo = hi
	}
	return 0, api.OK
}

// take answers a sector's bytes, in new memory: its sheet's, or else the volume's.
func (o *Overlay) take(p part) ([]byte, api.Errno) {
	if own, ok := o.sheets[p.sector]; ok {
		return own.bytes(), api.OK
	}
	b, _, e := o.volume.Read(p.first(), api.SectorSize)
	return b, e
}

// lay gives a sector a sheet that is laid out, with the range's bytes b over those that it has. These are taken only if b leaves any of them.
func (o *Overlay) lay(p part, b []byte) api.Errno {
	data := make([]byte, api.SectorSize)
	if !p.whole() {
		var e api.Errno
		if data, e = o.take(p); e != api.OK {
			return e
		}
	}
	copy(data[p.lo:p.hi], b)
	o.sheets[p.sector] = data
	return api.OK
}

// punch gives a sector a hole for its sheet.
func (o *Overlay) punch(p part) { o.sheets[p.sector] = nil }
