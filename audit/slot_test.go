package audit_test

import (
	"encoding/binary"
	"fmt"
	"hash/crc32"
	"testing"

	"spindle/api"
)

// sealed gives the head of a slot another number, and the sum that goes with it.
func sealed(slot int, seq uint64) func(image) {
	return func(b image) {
		h := b.sector(slot)
		binary.BigEndian.PutUint64(h[8:], seq)
		binary.BigEndian.PutUint32(h[26:], crc32.Checksum(h[:26], crc32.MakeTable(crc32.Castagnoli)))
	}
}

// twice is an image with a label in each slot, which differ by their descriptions.
func twice(sectors int, l api.Label, zero, one uint64) image {
	return fresh(sectors, l).with(labelled(0, described(l, "zero"), zero), labelled(1, described(l, "one"), one))
}

func described(l api.Label, desc string) api.Label {
	l.Exports = append([]api.Export(nil), l.Exports...)
	l.Exports[0].Desc = desc
	return l
}

// clean is what is told of an image of the label of the examples with no bit set.
func clean(slot int, seq uint64, l api.Label) api.Audit {
	return api.Audit{Slot: slot, Seq: seq, Label: l, Exports: make([]api.Counted, len(l.Exports))}
}

// P21.1: one head, in each slot, with all kinds of numbers.
func TestOneHead(t *testing.T) {
	for _, seq := range []uint64{1, 2, 255, 256, 1 << 32, 1<<32 + 1, api.MaxSeq - 1, api.MaxSeq} {
		for slot := range 2 {
			b := fresh(51, one()).with(wiped(0), labelled(slot, one(), seq))
			wantLook(t, fmt.Sprint("a head in slot ", slot, ", ", seq), b, clean(slot, seq, one()))
		}
	}
}

// P21.1: the slot in force is the one with the greater number; with one number it is slot 0, and that is found.
func TestTwoHeads(t *testing.T) {
	zero, other := described(one(), "zero"), described(one(), "one")
	for _, x := range []struct{ less, more uint64 }{{1, 2}, {1, api.MaxSeq}, {255, 256}, {1<<32 - 1, 1 << 32}, {5, 1 << 62}, {api.MaxSeq - 1, api.MaxSeq}} {
		wantLook(t, fmt.Sprint("slot 0 has more: ", x), twice(60, one(), x.more, x.less), clean(0, x.more, zero))
		wantLook(t, fmt.Sprint("slot 1 has more: ", x), twice(60, one(), x.less, x.more), clean(1, x.more, other))
	}
	for _, seq := range []uint64{1, 2, 1 << 32, api.MaxSeq} {
		a := clean(0, seq, zero)
		a.Findings = found(same())
		wantLook(t, fmt.Sprint("both have ", seq), twice(60, one(), seq, seq), a)
	}
}

// wrongHeads makes a head that is right to one that is none, in all ways that there are.
func wrongHeads(slot int) map[string]func(image) {
	return map[string]func(image){
		"the first byte":        byteAt(slot, 0, 'X'),
		"the magic":             byteAt(slot, 7, '2'),
		"its number":            turned(slot, 15),
		"how many exports":      turned(slot, 17),
		"its sum":               turned(slot, 29),
		"the first byte behind": byteAt(slot, 30, 1),
		"the last byte":         byteAt(slot, 511, 1),
		"number 0":              sealed(slot, 0),
		"number above MaxSeq":   sealed(slot, api.MaxSeq+1),
		"the greatest number":   sealed(slot, 1<<64-1),
		"all bytes":             filled(255, slot),
		"the last byte alone":   func(b image) { wiped(slot)(b); b.sector(slot)[511] = 1 },
		"the first byte alone":  func(b image) { wiped(slot)(b); b.sector(slot)[0] = 1 },
	}
}

// P21.1, P21.3: sectors that are no heads and not all 0, in each slot and in both.
func TestWrongHeads(t *testing.T) {
	b := twice(60, one(), 4, 3)
	for how, wrong := range wrongHeads(0) {
		a := clean(1, 3, described(one(), "one"))
		a.Findings = found(head(0))
		wantLook(t, "slot 0: "+how, b.with(wrong), a)
		wantRepaired(t, "slot 0: "+how, b.with(wrong), false, b.with(wiped(0)))
		both := b.with(wrong, wrongHeads(1)[how])
		wantFound(t, "both: "+how, both, none(), head(0), head(1))
		wantRepaired(t, "both: "+how, both, false, b.with(wiped(0, 1)), none())
		wantFound(t, "slot 0, and slot 1 is wiped: "+how, b.with(wrong, wiped(1)), none(), head(0))
	}
	for how, wrong := range wrongHeads(1) {
		a := clean(0, 4, described(one(), "zero"))
		a.Findings = found(head(1))
		wantLook(t, "slot 1: "+how, b.with(wrong), a)
		wantRepaired(t, "slot 1: "+how, b.with(wrong), false, b.with(wiped(1)))
		wantFound(t, "slot 1, and slot 0 is wiped: "+how, b.with(wrong, wiped(0)), none(), head(1))
	}
	wantFound(t, "neither", b.with(wiped(0, 1)), none())
}

// P21.1: a head counts whatever its body is: the number is that of the slot in force, and there is no label.
func TestSpoiltBodies(t *testing.T) {
	zero, other := described(one(), "zero"), described(one(), "one")
	for _, x := range []struct {
		what     string
		zero     uint64
		one      uint64
		spoilt   []int
		audit    api.Audit
		findings []api.Finding
	}{
		{"in force, slot 0", 9, 4, []int{bodyZero}, api.Audit{Slot: 0, Seq: 9}, found(body(0))},
		{"in force, slot 1", 4, 9, []int{bodyOne}, api.Audit{Slot: 1, Seq: 9}, found(body(1))},
		{"not in force, slot 0", 4, 9, []int{bodyZero}, clean(1, 9, other), found(body(0))},
		{"not in force, slot 1", 9, 4, []int{bodyOne}, clean(0, 9, zero), found(body(1))},
		{"both, slot 0 in force", 9, 4, []int{bodyZero, bodyOne}, api.Audit{Slot: 0, Seq: 9}, found(body(0), body(1))},
		{"both, slot 1 in force", 4, 9, []int{bodyZero, bodyOne}, api.Audit{Slot: 1, Seq: 9}, found(body(0), body(1))},
		{"one number, slot 0", 7, 7, []int{bodyZero}, api.Audit{Slot: 0, Seq: 7}, found(same(), body(0))},
		{"one number, slot 1", 7, 7, []int{bodyOne}, clean(0, 7, zero), found(same(), body(1))},
		{"one number, both", 7, 7, []int{bodyZero, bodyOne}, api.Audit{Slot: 0, Seq: 7}, found(same(), body(0), body(1))},
	} {
		for _, place := range []struct{ sector, at int }{{0, 0}, {0, 11}, {1, 500}, {19, 511}} {
			b := twice(60, one(), x.zero, x.one)
			for _, first := range x.spoilt {
				turned(first+place.sector, place.at)(b)
			}
			x.audit.Findings = x.findings
			wantLook(t, fmt.Sprintf("%s, byte %d of sector %d", x.what, place.at, place.sector), b, x.audit)
		}
	}
}

// P21.1: a body with the right sum that is no label is spoilt, too; so is one that is all 0.
func TestBodiesThatAreNoLabel(t *testing.T) {
	for what, change := range map[string]func(image){
		"no exports":        func(b image) { binary.BigEndian.PutUint16(b.sector(0)[16:], 0) },
		"one export more":   func(b image) { binary.BigEndian.PutUint16(b.sector(0)[16:], 2) },
		"too many used":     func(b image) { binary.BigEndian.PutUint32(b.sector(0)[18:], 10241) },
		"fewer used":        func(b image) { b.sector(0)[21]-- },
		"sectors 0":         func(b image) { b.sector(2)[8] = 0 },
		"a private tracked": func(b image) { b.sector(2)[9] = 12 },
		"a flag too many":   func(b image) { b.sector(2)[9] = 16 },
		"all 0":             wiped(upTo(2, 22)...),
	} {
		b := fresh(60, one())
		change(b)
		resum := func(b image) {
			binary.BigEndian.PutUint32(b.sector(0)[22:], crc32.Checksum(b[512*bodyZero:512*bodyOne], crc32.MakeTable(crc32.Castagnoli)))
			sealed(0, 6)(b)
		}
		wantLook(t, what, b.with(resum), api.Audit{Seq: 6, Findings: found(body(0))})
	}
}

// P21.1: each length that an image with two labels may be cut to: what is not there counts as 0.
func TestCutShort(t *testing.T) {
	const wanted = 42 + 16*2
	for _, slot := range []int{0, 1} {
		seqs := []uint64{5, 5}
		seqs[slot] = 6
		b := twice(wanted, long(), seqs[0], seqs[1])
		for sectors := 1; sectors <= wanted; sectors++ {
			what := fmt.Sprintf("slot %d in force, %d sectors", slot, sectors)
			var expect []api.Finding
			force := slot
			if sectors == 1 {
				force = 0
			}
			if sectors < bodyZero+17 {
				expect = append(expect, body(0))
			}
			if sectors > 1 && sectors < bodyOne+17 {
				expect = append(expect, body(1))
			}
			right := sectors >= []int{bodyZero, bodyOne}[force]+17
			if right && sectors < wanted {
				expect = append(expect, small(wanted))
			}
			a := look(t, what, b.cut(sectors))
			wantList(t, what, a.Findings, expect)
			want(t, what+": the slot", a.Slot, force)
			want(t, what+": the number", a.Seq, seqs[force])
			want(t, what+": exports", len(a.Label.Exports) == 16 && len(a.Exports) == 16, sectors == wanted)
			if sectors%9 == 1 {
				hold(t, what, b.cut(sectors))
			}
		}
	}
}

// P21.1: fewer sectors than the label wants, just as many, and more.
func TestSmallAndLarge(t *testing.T) {
	b := fresh(80, one()).with(bits(42, 0, 1, 9))
	for sectors := 43; sectors <= 80; sectors++ {
		what := fmt.Sprint(sectors, " sectors")
		if sectors < 51 {
			wantLook(t, what, b.cut(sectors), api.Audit{Seq: 1, Findings: found(small(51))})
			wantRepaired(t, what, b.cut(sectors), true, b.cut(sectors), small(51))
		} else {
			wantLook(t, what, b.cut(sectors), api.Audit{Seq: 1, Label: one(), Exports: []api.Counted{{Laid: 2}}, Findings: found(note(0, 1))})
		}
	}
	other := labelOf(export("a", 3000))
	wantFound(t, "the slot not in force wants more", fresh(60, one()).with(labelled(0, one(), 2), labelled(1, other, 1)))
	wantFound(t, "the slot in force wants more", fresh(60, one()).with(labelled(1, other, 2)), small(3043))
}

// P21.1: the order of what is found, where there are several of each kind.
func TestOrderOfFindings(t *testing.T) {
	beyond := []func(image){bits(42, 8, 9), bits(51, 11), bits(52, 12, 13, 4095), bits(64, 100), bits(65, 9), bits(75, 6, 7)}
	ofBits := found(note(0, 2), note(1, 1), mark(1, 3), note(2, 1), mark(2, 1), note(3, 2))
	b := twice(severalSize, several(), 4, 3).with(beyond...)
	for _, x := range []struct {
		what   string
		change []func(image)
		wanted []api.Finding
	}{
		{"bits alone", nil, ofBits},
		{"a head", []func(image){byteAt(1, 0, 1)}, append(found(head(1)), ofBits...)},
		{"the other head", []func(image){byteAt(0, 0, 1)}, append(found(head(0)), ofBits...)},
		{"one number", []func(image){sealed(1, 4)}, append(found(same()), ofBits...)},
		{"one number, and the other body", []func(image){sealed(1, 4), turned(41, 7)}, append(found(same(), body(1)), ofBits...)},
		{"the other body", []func(image){turned(22, 7)}, append(found(body(1)), ofBits...)},
		{"both bodies", []func(image){turned(22, 7), turned(2, 7)}, found(body(0), body(1))},
		{"one number, and both bodies", []func(image){sealed(1, 4), turned(22, 7), turned(2, 7)}, found(same(), body(0), body(1))},
		{"a head, and the other's body", []func(image){byteAt(0, 0, 1), turned(22, 7)}, found(head(0), body(1))},
		{"both heads", []func(image){byteAt(0, 0, 1), byteAt(1, 0, 1)}, found(none(), head(0), head(1))},
	} {
		wantFound(t, x.what, b.with(x.change...), x.wanted...)
	}
	for _, x := range []struct {
		what   string
		change []func(image)
		wanted []api.Finding
	}{
		{"small", nil, found(small(severalSize))},
		{"small, and a head", []func(image){byteAt(1, 0, 1)}, found(head(1), small(severalSize))},
		{"small, one number, and the other body", []func(image){sealed(1, 4), turned(22, 7)}, found(same(), body(1), small(severalSize))},
		{"small, and the other body", []func(image){turned(22, 7)}, found(body(1), small(severalSize))},
		{"small, and its own body", []func(image){turned(2, 7)}, found(body(0))},
	} {
		wantFound(t, x.what, b.cut(severalSize-1).with(x.change...), x.wanted...)
	}
}
