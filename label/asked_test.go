package label_test

import (
	"strconv"
	"testing"

	"spindle/api"
	"spindle/disk"
	"spindle/label"
)

// op is one operation that is asked of a disk.
type op struct {
	kind   int
	sector int // of a barrier -1
	data   []byte
}

func (o op) do(d *disk.Disk) {
	switch o.kind {
	case reading:
		d.Read(o.sector)
	case writing:
		d.Write(o.sector, o.data)
	case barring:
		d.Barrier()
	}
}

func (o op) String() string {
	return [...]string{reading: "read ", writing: "write ", barring: "barrier "}[o.kind] + strconv.Itoa(o.sector)
}

// ops are the operations of one call, in their order.
type ops []op

func (o ops) reads(first, count int) ops {
	for n := range count {
		o = append(o, op{kind: reading, sector: first + n})
	}
	return o
}

func (o ops) writes(first int, b []byte) ops {
	for i := 0; i < len(b); i += api.SectorSize {
		o = append(o, op{kind: writing, sector: first + i/api.SectorSize, data: b[i : i+api.SectorSize]})
	}
	return o
}

func (o ops) barrier() ops { return append(o, op{kind: barring, sector: -1}) }

func (o ops) then(more ops) ops { return append(o, more...) }

// failing is the fault by which the operation at a place fails, and none ahead of it.
func (o ops) failing(at int, land bool) api.Fault {
	f := api.Fault{Kind: o[at].kind, Sector: o[at].sector, Times: 1, Land: land}
	for _, ahead := range o[:at] {
		if ahead.kind == f.Kind && ahead.sector == f.Sector {
			f.After++
		}
	}
	return f
}

// loading are the operations of a Load that finds its label in a slot.
func loading(slot int) ops { return ops{}.reads(0, 2).reads(2+20*slot, 20) }

// enforcing are the writes and barriers by which a label comes into a slot.
func enforcing(l api.Label, seq uint64, slot int) ops {
	head, body := plain(l, seq)
	return ops{}.writes(2+20*slot, body).barrier().writes(slot, head).barrier()
}

// committing are the operations of a Commit on a disk whose label of number seq is in a slot.
func committing(l api.Label, seq uint64, slot int) ops {
	return loading(slot).barrier().then(enforcing(l, seq+1, 1-slot))
}

// formatting are the operations of a Format; notes are the sectors of notes and marks.
func formatting(l api.Label, notes ...int) ops {
	zeros := make([]byte, api.SectorSize)
	o := ops{}.writes(0, zeros).writes(1, zeros).barrier()
	for _, n := range notes {
		o = o.writes(n, zeros)
	}
	return o.then(enforcing(l, 1, 0))
}

type call func(*disk.Disk) api.Errno

func loads(d *disk.Disk) api.Errno {
	_, _, e := label.Load(d)
	return e
}

func commits(l api.Label) call {
	return func(d *disk.Disk) api.Errno { return label.Commit(d, l) }
}

func formats(l api.Label) call {
	return func(d *disk.Disk) api.Errno { return label.Format(d, l) }
}

func lands(o op) []bool {
	if o.kind == writing {
		return []bool{false, true}
	}
	return []bool{false}
}

// wantAsked looks that a call asks a disk for just these operations, in this order: done one by one on a copy they leave the same; and whichever of them fails is the last one, its error the answer.
func wantAsked(t *testing.T, what string, d *disk.Disk, asks call, asked ops, wanted api.Errno) {
	t.Helper()
	whole, byHand := d.Copy(), d.Copy()
	wantErr(t, what, asks(whole), wanted)
	for _, o := range asked {
		o.do(byHand)
	}
	wantLook(t, what, whole, lookAt(byHand))
	for i, o := range asked {
		for _, land := range lands(o) {
			fault := asked.failing(i, land)
			broken, byHand := d.Copy(), d.Copy()
			wantErr(t, "Fault", broken.Fault(fault), api.OK)
			wantErr(t, "Fault", byHand.Fault(fault), api.OK)
			where := what + ", failing at " + strconv.Itoa(i) + ", " + o.String()
			wantErr(t, where, asks(broken), api.ErrIO)
			for _, done := range asked[:i+1] {
				done.do(byHand)
			}
			wantLook(t, where, broken, lookAt(byHand))
		}
	}
}
