package audit

import (
	"spindle/api"
	"spindle/label"
	"spindle/octet"
)

const (
	noSlot = -1
	seqAt  = 8 // where in a head its number stands
)

// slot is one of the label's two.
type slot struct {
	blank bool      // its head's sector is all 0
	err   api.Errno // what Decode answers to head and body
	seq   uint64    // the head's number, be the body right or not; 0 of no head
	label api.Label
}

func (s slot) hasHead() bool { return s.err != api.ErrNone }

// slots reads both of them.
func (d disk) slots() [api.LabelHeads]slot {
	var out [api.LabelHeads]slot
	for n := range out {
		out[n] = d.slot(n)
	}
	return out
}

func (d disk) slot(n int) slot {
	head := d.sector(n)
	s := slot{blank: [api.SectorSize]byte(head) == [api.SectorSize]byte{}}
	s.label, _, s.err = label.Decode(head, d.body(n))
	if s.hasHead() {
		// Decode tells the number only beside a right body.
		s.seq, _ = octet.NewReader(head[seqAt:]).U64()
	}
	return s
}

// body gathers the sectors of a slot's body, of which not all need be there.
func (d disk) body(n int) []byte {
	out := make([]byte, 0, api.LabelBody*api.SectorSize)
	first := api.LabelHeads + n*api.LabelBody
	for k := range api.LabelBody {
		out = append(out, d.sector(first+k)...)
	}
	return out
}

// inForce tells the slot whose head has the greater number, slot 0 of two that have one.
func inForce(slots [api.LabelHeads]slot) int {
	force, most := noSlot, uint64(0)
	for n, s := range slots {
		if s.hasHead() && s.seq > most {
			force, most = n, s.seq
		}
	}
	return force
}

// look is for bytes that are a disk's.
func (d disk) look() api.Audit {
	slots := d.slots()
	a := api.Audit{Sectors: d.sectors(), Slot: inForce(slots), Findings: ofSlots(slots)}
	if a.Slot == noSlot {
		return a
	}
	force := slots[a.Slot]
	a.Seq = force.seq
	if force.err != api.OK {
		return a
	}
	if wanted, _ := label.Sectors(force.label); wanted > a.Sectors {
		a.Findings = append(a.Findings, api.Finding{Kind: api.FindSmall, N: wanted})
		return a
	}
	a.Label = force.label
	for n, p := range placesOf(a) {
		counted, found := d.ofExport(n, p)
		a.Exports = append(a.Exports, counted)
		a.Findings = append(a.Findings, found...)
	}
	return a
}

// ofSlots gives what is found of the slots, as far as each speaks for itself.
func ofSlots(slots [api.LabelHeads]slot) []api.Finding {
	var out []api.Finding
	if inForce(slots) == noSlot {
		out = append(out, api.Finding{Kind: api.FindNone})
	}
	for n, s := range slots {
		if !s.hasHead() && !s.blank {
			out = append(out, api.Finding{Kind: api.FindHead, At: n})
		}
	}
	if slots[0].hasHead() && slots[1].hasHead() && slots[0].seq == slots[1].seq {
		out = append(out, api.Finding{Kind: api.FindSame})
	}
	for n, s := range slots {
		if s.err == api.ErrSpoilt {
			out = append(out, api.Finding{Kind: api.FindBody, At: n})
		}
	}
	return out
}

// ofExport counts an export's bits, and gives what is found of them.
func (d disk) ofExport(n int, p api.Place) (api.Counted, []api.Finding) {
	var found []api.Finding
	laid, notes := d.count(p.Notes, p.Data.Count)
	if notes > 0 {
		found = append(found, api.Finding{Kind: api.FindNote, At: n, N: notes})
	}
	// Of an export that is not tracked the run of marks has no sector, and so no bit.
	marked, marks := d.count(p.Marks, p.Data.Count)
	if marks > 0 {
		found = append(found, api.Finding{Kind: api.FindMark, At: n, N: marks})
	}
	return api.Counted{Laid: laid, Marked: marked}, found
}
