package label

import (
	"slices"

	"spindle/api"
	"spindle/disk"
)

// loaded is the label that is in force on a disk, its number, and the slot in which it stands.
type loaded struct {
	label api.Label
	seq   uint64
	slot  int
}

// bodyAt is the first sector of a slot's body; its head is the sector with the slot's number.
func bodyAt(slot int) int { return api.LabelHeads + slot*api.LabelBody }

// Format lays a first label on a disk (P6.6).
func Format(d *disk.Disk, l api.Label) api.Errno {
	if d.Sectors() == 0 {
		return api.ErrNil
	}
	laid, e := Layout(l)
	if e != api.OK {
		return e
	}
	if d.Sectors() < end(laid) {
		return api.ErrSmall
	}
	// Only when no head is left may what they spoke of be written over.
	if e := wipe(d, api.Span{First: 0, Count: api.LabelHeads}); e != api.OK {
		return e
	}
	if e := d.Barrier(); e != api.OK {
		return e
	}
	for _, p := range laid {
		if e := wipe(d, p.Notes); e != api.OK {
			return e
		}
		if e := wipe(d, p.Marks); e != api.OK {
			return e
		}
	}
	return enforce(d, l, firstSeq, 0)
}

// Load reads the label that is in force (P6.7).
func Load(d *disk.Disk) (api.Label, uint64, api.Errno) {
	now, e := load(d)
	return now.label, now.seq, e
}

// Commit puts another label in force (P6.8).
func Commit(d *disk.Disk, l api.Label) api.Errno {
	now, e := load(d)
	if e != api.OK {
		return e
	}
	if e := Check(l); e != api.OK {
		return e
	}
	switch {
	case !slices.EqualFunc(now.label.Exports, l.Exports, sameShape):
		return api.ErrShape
	case now.seq == api.MaxSeq:
		return api.ErrEnd
	}
	// What is in force may still wait in the queue, and the other slot, which stands in for it at a crash, is about to go.
	if e := d.Barrier(); e != api.OK {
		return e
	}
	return enforce(d, l, now.seq+1, 1-now.slot)
}

// sameShape tells whether two exports lie alike, and whether what stands on the disk means the same in both.
func sameShape(a, b api.Export) bool {
	return a.Sectors == b.Sectors && a.Private == b.Private && a.Tracked == b.Tracked
}

func load(d *disk.Disk) (loaded, api.Errno) {
	switch n := d.Sectors(); {
	case n == 0:
		return loaded{}, api.ErrNil
	case n < api.LabelSize:
		return loaded{}, api.ErrNone
	}
	heads, e := readHeads(d)
	if e != api.OK {
		return loaded{}, e
	}
	slot, t := inForce(heads)
	if t.seq == noSeq {
		return loaded{}, api.ErrNone
	}
	body, e := read(d, api.Span{First: bodyAt(slot), Count: api.LabelBody})
	if e != api.OK {
		return loaded{}, e
	}
	l, ok := t.readBody(body)
	switch {
	case !ok:
		return loaded{}, api.ErrSpoilt
	case d.Sectors() < end(places(l)):
		return loaded{}, api.ErrSmall
	}
	return loaded{label: l, seq: t.seq, slot: slot}, api.OK
}

func readHeads(d *disk.Disk) ([api.LabelHeads]head, api.Errno) {
	var heads [api.LabelHeads]head
	b, e := read(d, api.Span{First: 0, Count: api.LabelHeads})
	if e != api.OK {
		return heads, e
	}
	for slot := range heads {
		heads[slot] = head(sectorOf(b, slot))
	}
	return heads, api.OK
}

// inForce tells which slot's head has the greater number, and what that head tells; noSeq, if both are none.
func inForce(heads [api.LabelHeads]head) (int, title) {
	var slot int
	var most title
	for i, h := range heads {
		if t, ok := h.title(); ok && t.seq > most.seq {
			slot, most = i, t
		}
	}
	return slot, most
}

func sectorOf(b []byte, n int) []byte { return b[n*api.SectorSize : (n+1)*api.SectorSize] }

// enforce lays a label down in a slot, in force only once all else of it is safe: by its head, a single sector.
func enforce(d *disk.Disk, l api.Label, seq uint64, slot int) api.Errno {
	h, body := encode(l, seq)
	if e := write(d, bodyAt(slot), body); e != api.OK {
		return e
	}
	if e := d.Barrier(); e != api.OK {
		return e
	}
	if e := write(d, slot, h[:]); e != api.OK {
		return e
	}
	return d.Barrier()
}

// wipe writes bytes 0 over sectors, rising.
func wipe(d *disk.Disk, s api.Span) api.Errno {
	return write(d, s.First, make([]byte, s.Count*api.SectorSize))
}

// write lays whole sectors down from first on, rising.
func write(d *disk.Disk, first int, b []byte) api.Errno {
	for n := range len(b) / api.SectorSize {
		if e := d.Write(first+n, sectorOf(b, n)); e != api.OK {
			return e
		}
	}
	return api.OK
}

// read reads sectors one behind the other, rising.
func read(d *disk.Disk, s api.Span) ([]byte, api.Errno) {
	var out []byte
	for n := range s.Count {
		b, e := d.Read(s.First + n)
		if e != api.OK {
			return nil, e
		}
		out = append(out, b...)
	}
	return out, api.OK
}
