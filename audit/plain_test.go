package audit_test

import (
	"bytes"
	"encoding/binary"
	"fmt"
	"hash/crc32"
	"math"
	"slices"
	"strings"
	"testing"

	"spindle/api"
	"spindle/audit"
	"spindle/disk"
	"spindle/label"
	"spindle/octet"
	"spindle/server"
)

// A plain reading of the chapter, which takes its time: bits are texts of 1 and 0, and each place is asked for by itself.

// plainSector: one that the image does not have counts as bytes 0.
func plainSector(b image, n int) []byte {
	if 512*n >= len(b) {
		return make([]byte, 512)
	}
	return slices.Clone(b.sector(n))
}

func plainSectors(b image, first, count int) []byte {
	var out []byte
	for n := range count {
		out = append(out, plainSector(b, first+n)...)
	}
	return out
}

// plainSeq tells a head's number; 0 of what is no head (P6.5).
func plainSeq(b []byte) uint64 {
	seq := binary.BigEndian.Uint64(b[8:])
	sum := crc32.Checksum(b[:26], crc32.MakeTable(crc32.Castagnoli))
	if string(b[:8]) != "SPINDLE1" || binary.BigEndian.Uint32(b[26:]) != sum || seq > math.MaxInt64 || !bytes.Equal(b[30:], make([]byte, 482)) {
		return 0
	}
	return seq
}

// plainBits gives the bits of a run of sectors.
func plainBits(b image, s api.Span) string {
	var out strings.Builder
	for _, value := range plainSectors(b, s.First, s.Count) {
		fmt.Fprintf(&out, "%08b", value)
	}
	return out.String()
}

func ones(s string) int { return strings.Count(s, "1") }

// plainPlaces lays exports out one behind the other (P6.2); the last number is that of the sectors that are wanted.
func plainPlaces(l api.Label) ([]api.Place, int) {
	var out []api.Place
	next := behind
	take := func(count int) api.Span {
		s := api.Span{First: next, Count: count}
		next += count
		return s
	}
	for _, e := range l.Exports {
		notes := int(math.Ceil(float64(e.Sectors) / 4096))
		p := api.Place{Notes: take(notes)}
		if e.Tracked {
			p.Marks = take(notes)
		}
		p.Data = take(e.Sectors)
		out = append(out, p)
	}
	return out, next
}

// plainLook is P21.1.
func plainLook(b image) api.Audit {
	heads := [2]uint64{plainSeq(plainSector(b, 0)), plainSeq(plainSector(b, 1))}
	out := api.Audit{Sectors: len(b) / 512, Slot: -1, Seq: max(heads[0], heads[1])}
	switch {
	case out.Seq == 0:
		out.Findings = append(out.Findings, none())
	case heads[0] == out.Seq:
		out.Slot = 0
	default:
		out.Slot = 1
	}
	for slot, seq := range heads {
		if seq == 0 && !bytes.Equal(plainSector(b, slot), make([]byte, 512)) {
			out.Findings = append(out.Findings, head(slot))
		}
	}
	if heads[0] > 0 && heads[0] == heads[1] {
		out.Findings = append(out.Findings, same())
	}
	for slot, seq := range heads {
		l, _, e := label.Decode(plainSector(b, slot), plainSectors(b, []int{bodyZero, bodyOne}[slot], 20))
		if seq > 0 && e != api.OK {
			out.Findings = append(out.Findings, body(slot))
		}
		if slot == out.Slot {
			out.Label = l
		}
	}
	places, wanted := plainPlaces(out.Label)
	if wanted > out.Sectors {
		if len(out.Label.Exports) > 0 {
			out.Findings = append(out.Findings, small(wanted))
		}
		out.Label = api.Label{}
		return out
	}
	for n, p := range places {
		notes, marks := plainBits(b, p.Notes), plainBits(b, p.Marks)
		last := out.Label.Exports[n].Sectors
		counted := api.Counted{Laid: ones(notes[:last])}
		if beyond := ones(notes[last:]); beyond > 0 {
			out.Findings = append(out.Findings, note(n, beyond))
		}
		if out.Label.Exports[n].Tracked {
			counted.Marked = ones(marks[:last])
			if beyond := ones(marks[last:]); beyond > 0 {
				out.Findings = append(out.Findings, mark(n, beyond))
			}
		}
		out.Exports = append(out.Exports, counted)
	}
	return out
}

// plainRepair is P21.3.
func plainRepair(b image, force bool) image {
	a := plainLook(b)
	places, _ := plainPlaces(a.Label)
	out := slices.Clone(b)
	zero := func(s api.Span, from int) {
		for n := from; n < 4096*s.Count; n++ {
			out[512*s.First+n/8] &= ^byte(1 << (7 - n%8))
		}
	}
	for _, f := range a.Findings {
		switch {
		case f.Kind == api.FindHead, f.Kind == api.FindBody && (f.At != a.Slot || force):
			wiped(f.At)(out)
		case f.Kind == api.FindSame && force:
			wiped(1)(out)
		case f.Kind == api.FindNote:
			zero(places[f.At].Notes, places[f.At].Data.Count)
		case f.Kind == api.FindMark:
			zero(places[f.At].Marks, places[f.At].Data.Count)
		}
	}
	if force {
		return plainRepair(out, false)
	}
	return out
}

// plainBytes is P21.4, for an image of a size that may be.
func plainBytes(b image, number int) ([]byte, api.Errno) {
	a := plainLook(b)
	places, _ := plainPlaces(a.Label)
	switch {
	case len(places) == 0:
		return nil, api.ErrNone
	case number < 0 || number >= len(places):
		return nil, api.ErrArg
	}
	var out []byte
	notes := plainBits(b, places[number].Notes)
	for n := range a.Label.Exports[number].Sectors {
		if notes[n] == '1' {
			out = append(out, plainSector(b, places[number].Data.First+n)...)
		} else {
			out = append(out, make([]byte, 512)...)
		}
	}
	return out, api.OK
}

// plainDiffer is P21.5, for images of sizes that may be.
func plainDiffer(a, b image, number int) ([]api.Range, api.Errno) {
	ofA, e := plainBytes(a, number)
	if e != api.OK {
		return nil, e
	}
	ofB, e := plainBytes(b, number)
	if e != api.OK {
		return nil, e
	}
	differs := func(at int) bool {
		return at >= 0 && (at < len(ofA) || at < len(ofB)) && (at >= len(ofA) || at >= len(ofB) || ofA[at] != ofB[at])
	}
	var out []api.Range
	for at := range max(len(ofA), len(ofB)) + 1 {
		if differs(at) && !differs(at-1) {
			out = append(out, api.Range{Lo: int64(at)})
		}
		if !differs(at) && differs(at-1) {
			out[len(out)-1].Hi = int64(at)
		}
	}
	return out, api.OK
}

// plainTell is P21.6.
func plainTell(a api.Audit) string {
	out := fmt.Sprintf("sectors %d\n", a.Sectors)
	if a.Slot < 0 {
		out += "label none\n"
	} else {
		out += fmt.Sprintf("label %d %d\n", a.Slot, a.Seq)
	}
	for n, x := range a.Label.Exports {
		if n < len(a.Exports) {
			out += fmt.Sprintf("export %d %s %d laid %d marked %d\n", n, octet.Quote(x.Name), x.Sectors, a.Exports[n].Laid, a.Exports[n].Marked)
		}
	}
	for _, f := range a.Findings {
		switch f.Kind {
		case api.FindNone:
			out += "none\n"
		case api.FindHead:
			out += fmt.Sprintf("head %d\n", f.At)
		case api.FindSame:
			out += "same\n"
		case api.FindBody:
			out += fmt.Sprintf("body %d\n", f.At)
		case api.FindSmall:
			out += fmt.Sprintf("small %d\n", f.N)
		case api.FindNote:
			out += fmt.Sprintf("note %d %d\n", f.At, f.N)
		case api.FindMark:
			out += fmt.Sprintf("mark %d %d\n", f.At, f.N)
		default:
			out += fmt.Sprintf("finding %d\n", f.Kind)
		}
	}
	if len(a.Label.Exports) > 0 && len(a.Findings) == 0 {
		return out + "clean\n"
	}
	return out + "not clean\n"
}

// hold holds all that is told of an image, of a size that may be, against the plain reading, and against what follows (P21.7).
func hold(t *testing.T, what string, b image) {
	t.Helper()
	a := look(t, what, b)
	wantAudit(t, what+": Look", a, plainLook(b))
	want(t, what+": Clean", cleanOf(t, a), len(a.Label.Exports) > 0 && len(a.Findings) == 0)
	want(t, what+": Tell", tellOf(t, a), plainTell(a))
	for _, force := range []bool{false, true} {
		got, e := repairOf(t, b, force)
		want(t, what+": Repair's error", e, api.OK)
		wantBytes(t, fmt.Sprint(what, ": Repair, force ", force), got, plainRepair(b, force))
		if !force {
			holdMended(t, what, b, got, a)
		}
	}
	for number := -1; number <= len(a.Label.Exports); number++ {
		got, e := bytesOf(t, b, number)
		wanted, wantedError := plainBytes(b, number)
		want(t, what+": Bytes' error", e, wantedError)
		wantBytes(t, what+": Bytes", got, wanted)
		list, e := audit.Differ(b, b, number)
		want(t, what+": Differ's error of an image and itself", e, wantedError)
		want(t, what+": Differ of an image and itself", len(list), 0)
	}
	holdStart(t, what, b, a)
}

// holdPair holds Differ against the plain reading.
func holdPair(t *testing.T, what string, a, b image, number int) {
	t.Helper()
	list, e := differOf(t, a, b, number)
	wanted, wantedError := plainDiffer(a, b, number)
	want(t, what+": Differ's error", e, wantedError)
	wantList(t, what+": Differ", list, wanted)
	other, otherError := differOf(t, b, a, number)
	if e == api.OK || otherError == api.OK {
		want(t, what+": Differ's error the other way", otherError, e)
		wantList(t, what+": Differ the other way", other, list)
	}
}

// holdMended: behind a Repair without force all is as it was, and nothing is found that it can mend; another one changes nothing.
func holdMended(t *testing.T, what string, b, mended image, was api.Audit) {
	t.Helper()
	what += ", behind Repair"
	now := look(t, what, mended)
	left := now.Findings
	now.Findings, was.Findings = nil, nil
	wantAudit(t, what, now, was)
	for _, f := range left {
		if f != none() && f != same() && f.Kind != api.FindSmall && f != body(now.Slot) {
			t.Errorf("%s: %v is left", what, f)
		}
	}
	for number := range was.Label.Exports {
		array, _ := bytesOf(t, b, number)
		wantExport(t, what, mended, number, array)
	}
	again, _ := repairOf(t, mended, false)
	wantBytes(t, what+" once more", again, mended)
}

// holdStart: a server starts just if there is a label, and it is that one.
func holdStart(t *testing.T, what string, b image, a api.Audit) {
	t.Helper()
	d, e := disk.Load(b)
	want(t, what+": the disk", e, api.OK)
	l, seq, e := label.Load(d)
	if len(a.Label.Exports) == 0 {
		want(t, what+": a label is loaded, and there is none", e != api.OK, true)
	} else if e != api.OK || seq != a.Seq || !slices.Equal(l.Exports, a.Label.Exports) {
		t.Errorf("%s: loaded is %v, number %d, error %d, want %v, number %d", what, l, seq, e, a.Label, a.Seq)
	}
	_, started := server.New(b, api.Config{Lines: 4, Conns: 1, Limits: api.Limits{Payload: 512, Option: 64, Flight: 1}})
	want(t, what+": starting", started, e)
}
