package server_test

import (
	"fmt"
	"testing"

	"spindle/api"
)

// A shape is an export of the filled disk: where it stands, and what its sectors have; 0 is a hole.
type shape struct {
	name        string
	at          int
	notes, data int
	sectors     []byte
}

func shapes() []shape {
	return []shape{
		{"a", volumeAt, volumeNotes, volumeData, []byte{0, 'b', 'c', 0, 0, 'f', 0, 0}},
		{"t", trackAt, trackNotes, trackData, []byte{'k', 0, 0, 0, 0, 0, 0, 0, 'l'}},
		{"p", privateAt, privateNotes, privateData, []byte{'p', 0, 0, 'q', 0, 0}},
		{"r", fixedAt, fixedNotes, fixedData, []byte{0, 'x', 'y', 0}},
	}
}

// bytes are all of its bytes.
func (x shape) bytes() []byte {
	var out []byte
	for _, with := range x.sectors {
		out = append(out, of(512, with)...)
	}
	return out
}

// parts are the holes and the data of a range.
func (x shape) parts(off, n uint64) []part {
	var out []part
	for i := off; i < off+n; i++ {
		hole := x.sectors[i/512] == 0
		if len(out) == 0 || out[len(out)-1].hole != hole {
			out = append(out, part{off: i, hole: hole})
		}
		out[len(out)-1].len++
	}
	return out
}

// ranges are some of an export, those at its sectors' edges among them.
func (x shape) ranges() [][2]uint64 {
	size := uint64(len(x.sectors)) * 512
	out := [][2]uint64{{0, size}, {0, 512}, {0, 1024}, {512, 1024}, {size - 512, 512}}
	if x.at != fixedAt {
		out = append(out, [2]uint64{100, 1500}, [2]uint64{511, 2}, [2]uint64{511, 1026}, [2]uint64{size - 1, 1}, [2]uint64{0, 1}, [2]uint64{1, size - 2}, [2]uint64{700, 3})
	}
	return out
}

// P15.8: reads of holes, of data and of both, of every export, with plain answers, in chunks and extended; with FlagDF one piece has it all.
func TestReads(t *testing.T) {
	for _, f := range forms() {
		for _, x := range shapes() {
			s := started(t, filled(t), config(3, 1, 2))
			c := begun(t, s, f, x.name)
			for _, r := range x.ranges() {
				what := fmt.Sprintf("%s, export %s, %d bytes from %d on", f.name, x.name, r[1], r[0])
				h := well(t, s, c, read(r[0], r[1]))
				wantBytes(t, what, h.data, x.bytes()[r[0]:][:r[1]])
				if f.structured || f.extended {
					wantSame(t, what, h.parts, x.parts(r[0], r[1]))
					h = well(t, s, c, read(r[0], r[1], api.FlagDF))
					wantBytes(t, what+", DF", h.data, x.bytes()[r[0]:][:r[1]])
					wantSame(t, what+", DF", h.parts, []part{{r[0], r[1], false}})
				}
			}
			wantBytes(t, f.name+": the export", peeked(t, s, x.at), x.bytes())
		}
	}
}

// P15.8: neighbours that differ in being unsaved or dirty alone are one piece of a read.
func TestReadsJoin(t *testing.T) {
	for _, f := range forms()[1:] {
		s := started(t, filled(t), config(8, 2, 2))
		c := begun(t, s, f, "a")
		well(t, s, c, write(512, []byte("new")))
		wantSame(t, "saved beside unsaved data", well(t, s, c, read(512, 1024)).parts, []part{{512, 1024, false}})
		c = begun(t, s, f, "t")
		well(t, s, c, write(512, []byte("new"), api.FlagFua))
		well(t, s, c, request(api.CmdTrim, 3*512, 512))
		wantSame(t, "dirty holes beside others", well(t, s, c, read(1024, 3*512)).parts, []part{{1024, 3 * 512, true}})
		wantSame(t, "dirty data beside others", well(t, s, c, read(0, 1536)).parts, []part{{0, 1024, false}, {1024, 512, true}})
	}
}

// A case of a fault in a read: how many reads of the sector go well, and the byte at fault.
type faultCase struct {
	name          string
	sector, after int
	q             api.Request
	at            uint64
}

// P15.8: a read that fails at a note, at data, or when its holes are looked for: EIO, and the byte at fault, where an answer has a place for it.
func TestReadFaults(t *testing.T) {
	cases := []faultCase{
		{"a note", volumeNotes, 0, read(300, 1000), 300},
		{"data", volumeData + 1, 0, read(300, 1000), 512},
		{"the last data", volumeData + 2, 0, read(300, 1000), 1024},
		{"the first byte", volumeData + 1, 0, read(700, 3), 700},
		{"the note, the second time", volumeNotes, 1, read(520, 100), 520},
	}
	for _, f := range forms() {
		for _, x := range cases {
			what := f.name + ", " + x.name
			s := started(t, filled(t), config(1, 1, 2))
			c := begun(t, s, f, "a")
			mustStep(t, s, fails(api.FaultRead, x.sector, x.after))
			extents := f.structured || f.extended
			if !extents && x.after > 0 {
				wantBytes(t, what+": nobody looks for holes", well(t, s, c, x.q).data, of(100, 'b'))
				continue
			}
			ran, h := done(t, s, c, x.q)
			wantAnswer(t, what, ran, api.Answer{N: 1, Code: api.EIO})
			wantFault(t, what, h, extents, x.at)
			wantBytes(t, what+": again", well(t, s, c, x.q).data, shapes()[0].bytes()[x.q.Offset:][:x.q.Length])
		}
	}
}

// wantFault looks that an answer tells EIO, and the byte at fault, if it can.
func wantFault(t *testing.T, what string, h heard, chunks bool, at uint64) {
	t.Helper()
	wanted := heard{code: api.EIO}
	if chunks {
		wanted.placed, wanted.at = true, at
	}
	wantSame(t, what, h, wanted)
}

// P15.8: with FlagDF nobody looks for holes: the note is read once.
func TestReadsOfOnePieceAskNoExtents(t *testing.T) {
	for _, f := range forms()[1:] {
		s := started(t, filled(t), config(1, 1, 2))
		c := begun(t, s, f, "a")
		mustStep(t, s, fails(api.FaultRead, volumeNotes, 1))
		wantBytes(t, f.name, well(t, s, c, read(520, 100, api.FlagDF)).data, of(100, 'b'))
		ran, _ := done(t, s, c, read(520, 100))
		want(t, f.name+": the fault is armed still", ran.Code, api.EIO)
	}
}

// P15.8: reads over a track and an overlay fail as their layers say.
func TestReadFaultsOfOthers(t *testing.T) {
	for _, x := range []struct {
		name   string
		export string
		sector int
		q      api.Request
		at     uint64
	}{
		{"a track's data", "t", trackData, read(3, 600), 3},
		{"a track's mark", "t", trackMarks, read(3, 600), 3},
		{"an overlay's note", "p", privateNotes, read(3, 600), 3},
		{"an overlay's data", "p", privateData + 3, read(1000, 1000), 1536},
		{"fixed data", "r", fixedData + 1, read(512, 512), 512},
	} {
		for _, f := range forms()[1:] {
			s := started(t, filled(t), config(4, 1, 2))
			c := begun(t, s, f, x.export)
			mustStep(t, s, fails(api.FaultRead, x.sector, 0))
			ran, h := done(t, s, c, x.q)
			want(t, x.name, ran.Code, api.EIO)
			wantFault(t, x.name, h, true, x.at)
			well(t, s, c, x.q)
		}
	}
}

// P15.8: a fault that lasts fails every read until it is used up.
func TestLastingFault(t *testing.T) {
	s := started(t, filled(t), config(1, 1, 2))
	c := begun(t, s, form{}, "a")
	mustStep(t, s, api.Step{Kind: api.SFault, Fault: api.Fault{Kind: api.FaultRead, Sector: -1, Times: 3}})
	for range 3 {
		ran, h := done(t, s, c, read(512, 512))
		want(t, "it lasts", ran.Code, api.EIO)
		want(t, "it lasts", h.code, api.EIO)
	}
	wantBytes(t, "used up", well(t, s, c, read(512, 512)).data, of(512, 'b'))
}
