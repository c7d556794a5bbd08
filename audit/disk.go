package audit

import "spindle/api"

// sectorBits is for how many sectors of an export one note or mark sector has a bit.
const sectorBits = 8 * api.SectorSize

// disk is the bytes of a disk's sectors, as they lie.
type disk []byte

func (d disk) sectors() int { return len(d) / api.SectorSize }

// sector cuts one out, so that nobody appends into its neighbour. One that is not there has bytes 0.
func (d disk) sector(n int) []byte {
	if n >= d.sectors() {
		return make([]byte, api.SectorSize)
	}
	lo, hi := n*api.SectorSize, (n+1)*api.SectorSize
	return d[lo:hi:hi]
}

// wipe makes a sector that is there all 0.
func (d disk) wipe(n int) { clear(d.sector(n)) }

// bit is one of a note or mark sector.
type bit struct {
	of    int // which sector of the export it speaks of, be there such a one or not
	at    int // its byte on the disk
	value byte
}

func (d disk) has(b bit) bool { return d[b.at]&b.value != 0 }

// eachBit does something with each bit of a run of sectors, which are all there.
func (d disk) eachBit(run api.Span, do func(bit)) {
	first := run.First * api.SectorSize
	for n := range run.Count * sectorBits {
		do(bit{of: n, at: first + n/8, value: 128 >> (n % 8)})
	}
}

// count tells how many bits of a run stand at 1: of the export's sectors, and beyond its last one.
func (d disk) count(run api.Span, sectors int) (within, beyond int) {
	d.eachBit(run, func(b bit) {
		switch {
		case !d.has(b):
		case b.of < sectors:
			within++
		default:
			beyond++
		}
	})
	return within, beyond
}

// cutOff makes the bits of a run beyond the export's last sector 0.
func (d disk) cutOff(run api.Span, sectors int) {
	d.eachBit(run, func(b bit) {
		if b.of >= sectors {
			d[b.at] &^= b.value
		}
	})
}

// export gives the bytes of an export: those of a hole are 0, whatever stands there.
func (d disk) export(p api.Place) []byte {
	out := make([]byte, p.Data.Count*api.SectorSize)
	d.eachBit(p.Notes, func(b bit) {
		if b.of < p.Data.Count && d.has(b) {
			copy(out[b.of*api.SectorSize:], d.sector(p.Data.First+b.of))
		}
	})
	return out
}
