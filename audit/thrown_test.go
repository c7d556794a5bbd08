package audit_test

import (
	"fmt"
	"testing"

	"spindle/api"
	"spindle/label"
)

// throwLabel throws for a label.
func throwLabel(d *dice) api.Label {
	var l api.Label
	for n := range 1 + d.below(4) {
		x := export(string(rune('a'+n)), pick(d, 1, 3, 7, 8, 9, 16, 20))
		x.Tracked = d.bool()
		l.Exports = append(l.Exports, x)
	}
	return l
}

// throwImage throws for an image: labels in both slots or one, of which this and that may be wrong; it may be too short, or longer than it need be.
func throwImage(d *dice) image {
	l := throwLabel(d)
	wanted, _ := label.Sectors(l)
	b := stamped(wanted+60).with(wiped(0, 1), labelled(d.below(2), l, pick[uint64](d, 1, 2, 3, 1<<40, api.MaxSeq)))
	if d.bool() {
		other := pick(d, l, described(l, "other"), throwLabel(d))
		labelled(d.below(2), other, pick[uint64](d, 1, 2, 3, 1<<40, api.MaxSeq))(b)
	}
	places, _ := label.Layout(l)
	for _, p := range places {
		throwBits(d, b, p.Notes, p.Data.Count)
		throwBits(d, b, p.Marks, p.Data.Count)
	}
	for range d.below(3) {
		throwWrong(d)(b)
	}
	return b.cut(max(1, pick(d, wanted, wanted, wanted, wanted+d.below(60), wanted-1, d.below(wanted))))
}

// throwBits throws for note or mark bits, now and then beyond the last sector, too.
func throwBits(d *dice, b image, s api.Span, sectors int) {
	if s.Count == 0 {
		return
	}
	wiped(s.First)(b)
	for range d.below(sectors + 1) {
		bits(s.First, d.below(sectors))(b)
	}
	if d.below(4) == 0 {
		bits(s.First, sectors+d.below(4096-sectors), pick(d, sectors, 4095))(b)
	}
}

// throwWrong throws for something that is wrong with the label.
func throwWrong(d *dice) func(image) {
	slot := d.below(2)
	return pick(d,
		turned(slot, pick(d, 0, 8, 15, 25, 26, 30, d.below(512))),
		turned(2+20*slot+d.below(2), d.below(512)),
		turned(2+20*slot+d.below(20), d.below(512)),
		wiped(slot), filled(255, slot), byteAt(slot, d.below(512), 1),
		sealed(slot, pick[uint64](d, 0, 1, 2, 3, api.MaxSeq, api.MaxSeq+1)),
	)
}

// nearby is an image in which some bytes behind the label are others.
func nearby(d *dice, b image) image {
	out := b.with()
	for range d.below(6) {
		if lo := 512 * behind; len(out) > lo {
			at := lo + d.below(len(out)-lo)
			for range 1 + d.below(3) {
				out[min(at, len(out)-1)] ^= byte(1 + d.below(255))
				at++
			}
		}
	}
	return out
}

// P21.1 to P21.7: images that are thrown, held against the plain reading, each one by itself and two by two.
func TestThrownImages(t *testing.T) {
	met := map[string]int{}
	var last image = blank(1)
	for seed := range 250 {
		d := dice(seed)
		b := throwImage(&d)
		what := fmt.Sprint("image ", seed)
		hold(t, what, b)
		a := look(t, what, b)
		met[fmt.Sprint("exports ", len(a.Label.Exports))]++
		met[fmt.Sprint("slot ", a.Slot)]++
		met[fmt.Sprint("findings ", len(a.Findings))]++
		for _, f := range a.Findings {
			met[fmt.Sprint("kind ", f.Kind)]++
		}
		for number := range 2 {
			holdPair(t, what+" and the one ahead", b, last, number)
			holdPair(t, what+" and one nearby", b, nearby(&d, b), number)
		}
		last = b
		if t.Failed() {
			t.Fatal(what)
		}
	}
	for _, kind := range []string{"exports 0", "exports 1", "exports 2", "exports 3", "exports 4", "slot -1", "slot 0", "slot 1", "findings 0", "findings 1", "findings 2", "findings 3",
		"kind 1", "kind 2", "kind 3", "kind 4", "kind 5", "kind 6", "kind 7"} {
		if met[kind] < 5 {
			t.Error("hardly met:", kind, met[kind])
		}
	}
}

// P21.1 to P21.4: bytes that nobody laid down.
func TestThrownBytes(t *testing.T) {
	for seed := range 100 {
		d := dice(seed)
		b := blank(1 + d.below(70))
		for i := range b {
			b[i] = byte(d.below(256))
		}
		hold(t, "thrown bytes", b)
	}
}

// P21.2, P21.6: audits that are thrown.
func TestThrownAudits(t *testing.T) {
	numbers := []int{-1 << 63, -5, -1, 0, 1, 2, 7, 65536, 1<<63 - 1}
	for seed := range 2000 {
		d := dice(seed)
		number := func() int { return pick(&d, numbers...) }
		a := api.Audit{Sectors: number(), Slot: number(), Seq: uint64(number())}
		for range d.below(4) {
			name := ""
			for range d.below(6) {
				name += pick(&d, "a", "\n", "\"", "\\", "\x00", "é", "\xff", "\x7f")
			}
			a.Label.Exports = append(a.Label.Exports, api.Export{Name: name, Sectors: number()})
		}
		for range d.below(4) {
			a.Exports = append(a.Exports, api.Counted{Laid: number(), Marked: number()})
		}
		for range d.below(4) {
			a.Findings = append(a.Findings, api.Finding{Kind: api.FindingKind(d.below(11) - 1), At: number(), N: number()})
		}
		want(t, "Tell", tellOf(t, a), plainTell(a))
		want(t, "Clean", cleanOf(t, a), len(a.Label.Exports) > 0 && len(a.Findings) == 0)
	}
}
