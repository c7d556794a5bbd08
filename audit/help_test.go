package audit_test

import (
	"bytes"
	"fmt"
	"slices"
	"testing"

	"spindle/api"
	"spindle/label"
)

// Where a label's things stand, in sectors.
const (
	bodyZero = 2
	bodyOne  = 22
	behind   = 42 // the label's own
)

func export(name string, sectors int) api.Export {
	return api.Export{Name: name, Sectors: sectors, Min: 1, Pref: 512}
}

func tracked(e api.Export) api.Export {
	e.Tracked = true
	return e
}

func labelOf(exports ...api.Export) api.Label { return api.Label{Exports: exports} }

// one is the label of the chapter's examples: its note sector is 42, its data are 43 to 50.
func one() api.Label { return labelOf(export("a", 8)) }

// several has notes in 42, 51 and 64, marks in 52 and 65, data from 43, 53, 66 and 76 on; those of the last one, which is private, in 75; it wants 82 sectors.
func several() api.Label {
	return labelOf(export("a", 8), tracked(export("t", 11)), tracked(export("second", 9)),
		api.Export{Name: "p", Desc: "private", Sectors: 6, Min: 512, Pref: 1024, Private: true})
}

const severalSize = 82

// long has as many exports, names and descriptions as may be: 8464 bytes of its body are used, 17 sectors of it.
func long() api.Label {
	var l api.Label
	for n := range api.MaxExports {
		x := export(string(rune('a'+n))+string(of(255, 'n')), 1)
		x.Desc = string(of(256, 'd'))
		l.Exports = append(l.Exports, x)
	}
	return l
}

// of gives n bytes of one value.
func of(n int, with byte) []byte { return bytes.Repeat([]byte{with}, n) }

// image is a disk's bytes, made by hand.
type image []byte

func blank(sectors int) image { return make(image, sectors*512) }

// stamped gives sectors of which each has bytes of its own, none of them 0.
func stamped(sectors int) image {
	out := blank(sectors)
	for i := range out {
		out[i] = 1 + byte((i/512*37+i)%255)
	}
	return out
}

func (b image) sector(n int) []byte { return b[512*n:][:512] }

// with gives a copy in which something is another.
func (b image) with(changes ...func(image)) image {
	out := slices.Clone(b)
	for _, change := range changes {
		change(out)
	}
	return out
}

// cut gives the first sectors alone.
func (b image) cut(sectors int) image { return slices.Clone(b[:512*sectors]) }

// labelled lays a label into a slot.
func labelled(slot int, l api.Label, seq uint64) func(image) {
	head, body, e := label.Encode(l, seq)
	if e != api.OK {
		panic(fmt.Sprint("Encode of ", l, ": error ", e))
	}
	return func(b image) {
		copy(b.sector(slot), head)
		copy(b[512*(bodyZero+20*slot):], body)
	}
}

// filled gives sectors bytes of one value.
func filled(with byte, sectors ...int) func(image) {
	return func(b image) {
		for _, n := range sectors {
			copy(b.sector(n), of(512, with))
		}
	}
}

func wiped(sectors ...int) func(image) { return filled(0, sectors...) }

// byteAt gives a byte of a sector a value.
func byteAt(sector, at int, value byte) func(image) {
	return func(b image) { b.sector(sector)[at] = value }
}

// turned turns a byte of a sector into another.
func turned(sector, at int) func(image) {
	return func(b image) { b.sector(sector)[at] ^= 0x11 }
}

// bits sets bits of the note or mark sectors from a sector on.
func bits(first int, numbers ...int) func(image) {
	return func(b image) {
		for _, n := range numbers {
			b[512*first+n/8] |= 128 >> (n % 8)
		}
	}
}

// upTo are the numbers from lo on, below hi.
func upTo(lo, hi int) []int {
	var out []int
	for n := lo; n < hi; n++ {
		out = append(out, n)
	}
	return out
}

// fresh is an image of so many sectors with a label in slot 0 that nothing was done with; what is not the label's or a note is no 0.
func fresh(sectors int, l api.Label) image {
	b := stamped(sectors).with(wiped(upTo(0, behind)...), labelled(0, l, 1))
	places, _ := label.Layout(l)
	for _, p := range places {
		wiped(upTo(p.Notes.First, p.Notes.First+p.Notes.Count)...)(b)
		wiped(upTo(p.Marks.First, p.Marks.First+p.Marks.Count)...)(b)
	}
	return b
}

// Findings, by their numbers.
func none() api.Finding          { return api.Finding{Kind: api.FindNone} }
func head(at int) api.Finding    { return api.Finding{Kind: api.FindHead, At: at} }
func same() api.Finding          { return api.Finding{Kind: api.FindSame} }
func body(at int) api.Finding    { return api.Finding{Kind: api.FindBody, At: at} }
func small(n int) api.Finding    { return api.Finding{Kind: api.FindSmall, N: n} }
func note(at, n int) api.Finding { return api.Finding{Kind: api.FindNote, At: at, N: n} }
func mark(at, n int) api.Finding { return api.Finding{Kind: api.FindMark, At: at, N: n} }

func found(list ...api.Finding) []api.Finding { return list }

func want[T comparable](t *testing.T, what string, got, want T) {
	t.Helper()
	if got != want {
		t.Errorf("%s: %v, want %v", what, got, want)
	}
}

func wantBytes(t *testing.T, what string, got, want []byte) {
	t.Helper()
	if bytes.Equal(got, want) {
		return
	}
	for i := range min(len(got), len(want)) {
		if got[i] != want[i] {
			t.Errorf("%s: byte %d of sector %d is %#x, want %#x", what, i%512, i/512, got[i], want[i])
			return
		}
	}
	t.Errorf("%s: %d bytes, want %d", what, len(got), len(want))
}

func wantList[T comparable](t *testing.T, what string, got, want []T) {
	t.Helper()
	if !slices.Equal(got, want) {
		t.Errorf("%s: %v, want %v", what, got, want)
	}
}

func wantAudit(t *testing.T, what string, got, want api.Audit) {
	t.Helper()
	if !sameAudit(got, want) {
		t.Errorf("%s: %+v, want %+v", what, got, want)
	}
}

func sameAudit(a, b api.Audit) bool {
	return a.Sectors == b.Sectors && a.Slot == b.Slot && a.Seq == b.Seq && slices.Equal(a.Label.Exports, b.Label.Exports) &&
		slices.Equal(a.Exports, b.Exports) && slices.Equal(a.Findings, b.Findings)
}

func cloned(a api.Audit) api.Audit {
	a.Label.Exports, a.Exports, a.Findings = slices.Clone(a.Label.Exports), slices.Clone(a.Exports), slices.Clone(a.Findings)
	return a
}

// dice gives numbers that look as if thrown, the same ones in each run.
type dice uint64

func (d *dice) below(n int) int {
	*d = *d*6364136223846793005 + 1442695040888963407
	return int(uint64(*d)>>33) % n
}

func (d *dice) bool() bool { return d.below(2) == 1 }

// pick throws for one of a list.
func pick[T any](d *dice, list ...T) T { return list[d.below(len(list))] }

// look calls Look of an image that may be.
func look(t *testing.T, what string, b image) api.Audit {
	t.Helper()
	a, e := lookOf(t, b)
	want(t, what+": Look's error", e, api.OK)
	return a
}

// wantLook asks for all that Look tells, and holds what else follows against the chapter.
func wantLook(t *testing.T, what string, b image, wanted api.Audit) {
	t.Helper()
	wanted.Sectors = len(b) / 512
	wantAudit(t, what, look(t, what, b), wanted)
	hold(t, what, b)
}

// wantFound asks for the findings.
func wantFound(t *testing.T, what string, b image, wanted ...api.Finding) {
	t.Helper()
	wantList(t, what, look(t, what, b).Findings, wanted)
	hold(t, what, b)
}

// wantRepaired asks for the image that Repair gives, byte by byte, and for what is left to be found there.
func wantRepaired(t *testing.T, what string, b image, force bool, wanted image, left ...api.Finding) {
	t.Helper()
	got, e := repairOf(t, b, force)
	want(t, what+": Repair's error", e, api.OK)
	wantBytes(t, what, got, wanted)
	wantFound(t, what+", repaired", got, left...)
}

// wantExport asks for an export's bytes.
func wantExport(t *testing.T, what string, b image, number int, wanted []byte) {
	t.Helper()
	got, e := bytesOf(t, b, number)
	want(t, what+": Bytes' error", e, api.OK)
	wantBytes(t, what, got, wanted)
}

// wantDiffer asks for the places at which two images' exports differ, both ways.
func wantDiffer(t *testing.T, what string, a, b image, number int, wanted ...api.Range) {
	t.Helper()
	for _, pair := range [][2]image{{a, b}, {b, a}} {
		got, e := differOf(t, pair[0], pair[1], number)
		want(t, what+": Differ's error", e, api.OK)
		wantList(t, what, got, wanted)
	}
}
