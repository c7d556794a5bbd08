package audit_test

import (
	"fmt"
	"slices"
	"testing"

	"spindle/api"
	"spindle/label"
)

// edges are the bits of so many note sectors that are worth a look, for an export of so many sectors.
func edges(sectors, notes int) []int {
	out := []int{1, 7, 8, sectors - 8, sectors - 1, sectors, sectors + 1, sectors + 8, (sectors + 7) / 8 * 8, (sectors+7)/8*8 - 1}
	for k := range notes {
		out = append(out, 4096*k, 4096*k+2049, 4096*k+4095)
	}
	out = slices.DeleteFunc(out, func(n int) bool { return n < 0 || n >= 4096*notes })
	slices.Sort(out)
	return slices.Compact(out)
}

// P21.1, P21.3: each bit alone, of notes and of marks: a sector's own counts, one beyond the last sector is found and goes.
func TestBitsOneByOne(t *testing.T) {
	for _, sectors := range []int{1, 7, 8, 9, 15, 16, 17, 4095, 4096, 4097, 8193} {
		l := labelOf(tracked(export("x", sectors)))
		places, _ := label.Layout(l)
		b := blank(places[0].Data.First + sectors).with(labelled(0, l, 1))
		for _, n := range edges(sectors, places[0].Notes.Count) {
			for _, x := range []struct {
				kind    api.FindingKind
				first   int
				counted api.Counted
			}{{api.FindNote, places[0].Notes.First, api.Counted{Laid: 1}}, {api.FindMark, places[0].Marks.First, api.Counted{Marked: 1}}} {
				what := fmt.Sprintf("%d sectors, kind %d, bit %d", sectors, x.kind, n)
				set := b.with(bits(x.first, n))
				a := api.Audit{Sectors: len(b) / 512, Seq: 1, Label: l, Exports: []api.Counted{x.counted}}
				mended := set
				if n >= sectors {
					a.Exports[0] = api.Counted{}
					a.Findings = found(api.Finding{Kind: x.kind, N: 1})
					mended = b
				}
				wantAudit(t, what, look(t, what, set), a)
				got, _ := repairOf(t, set, false)
				wantBytes(t, what, got, mended)
			}
		}
	}
}

// P21.1: none, some and all of an export's sectors; all bits that there are beyond them.
func TestLaidAndMarked(t *testing.T) {
	for _, sectors := range []int{1, 8, 13, 4096, 4097} {
		l := labelOf(export("ahead", 3), tracked(export("x", sectors)), export("behind", 5))
		places, _ := label.Layout(l)
		wanted, _ := label.Sectors(l)
		p := places[1]
		all, beyond := upTo(0, sectors), upTo(sectors, 4096*p.Notes.Count)
		half := all[:len(all)/2]
		for _, x := range []struct {
			what         string
			notes, marks []int
		}{{"none", nil, nil}, {"all", all, all}, {"all notes", all, nil}, {"all marks", nil, all}, {"half of them", half, all[len(half):]},
			{"beyond", beyond, beyond}, {"notes beyond", append(beyond, all...), half}, {"marks beyond", half, append(beyond, all...)}} {
			b := fresh(wanted, l).with(bits(p.Notes.First, x.notes...), bits(p.Marks.First, x.marks...))
			within := func(l []int) int {
				return len(slices.DeleteFunc(slices.Clone(l), func(n int) bool { return n >= sectors }))
			}
			a := api.Audit{Sectors: wanted, Seq: 1, Label: l, Exports: []api.Counted{{}, {Laid: within(x.notes), Marked: within(x.marks)}, {}}}
			if n := len(x.notes) - within(x.notes); n > 0 {
				a.Findings = append(a.Findings, note(1, n))
			}
			if n := len(x.marks) - within(x.marks); n > 0 {
				a.Findings = append(a.Findings, mark(1, n))
			}
			what := fmt.Sprint(sectors, " sectors, ", x.what)
			wantAudit(t, what, look(t, what, b), a)
			got, _ := repairOf(t, b, true)
			wantBytes(t, what, got, plainRepair(b, false))
		}
	}
}

// P21.1: an export that is not tracked has no marks: what stands behind its notes are its data.
func TestNoMarks(t *testing.T) {
	b := fresh(severalSize, several()).with(filled(255, 43), filled(255, 76))
	wantLook(t, "no marks", b, clean(0, 1, several()))
	b = b.with(filled(255, 52))
	a := clean(0, 1, several())
	a.Exports[1].Marked = 11
	a.Findings = found(mark(1, 4096-11))
	wantLook(t, "marks of one alone", b, a)
}

// P21.1: bits of several exports, each counted by itself; a bit of a data sector is none.
func TestSeveralExports(t *testing.T) {
	b := fresh(severalSize, several()).with(bits(42, 0, 7), bits(51, upTo(0, 11)...), bits(52, 0, 5, 10), bits(64, 8), bits(65, upTo(0, 9)...), bits(75, 0, 5))
	wantLook(t, "several", b, api.Audit{Seq: 1, Label: several(), Exports: []api.Counted{{Laid: 2}, {Laid: 11, Marked: 3}, {Laid: 1, Marked: 9}, {Laid: 2}}})
	b = b.with(bits(42, 8), bits(75, 6, 4095))
	wantLook(t, "several, with bits beyond", b, api.Audit{Seq: 1, Label: several(), Exports: []api.Counted{{Laid: 2}, {Laid: 11, Marked: 3}, {Laid: 1, Marked: 9}, {Laid: 2}}, Findings: found(note(0, 1), note(3, 2))})
	b = b.with(filled(255, 51, 52, 64, 65))
	wantLook(t, "several, all bits of two", b, api.Audit{Seq: 1, Label: several(), Exports: []api.Counted{{Laid: 2}, {Laid: 11, Marked: 11}, {Laid: 9, Marked: 9}, {Laid: 2}},
		Findings: found(note(0, 1), note(1, 4085), mark(1, 4085), note(2, 4087), mark(2, 4087), note(3, 2))})
	all := fresh(42+16*2, long())
	counts := make([]api.Counted, 16)
	for n := range counts {
		bits(42+2*n, 0)(all)
		counts[n].Laid = 1
	}
	wantLook(t, "as many exports as may be", all, api.Audit{Seq: 1, Label: long(), Exports: counts})
}
