package audit_test

import (
	"testing"

	"spindle/api"
)

// A mending is what Repair without force and with force makes of an image, beside what is found there, and what is left of it.
type mending struct {
	what   string
	wrong  []func(image)
	found  []api.Finding
	mend   []func(image)
	left   []api.Finding
	forced []func(image)
	still  []api.Finding // left by force
}

func (m mending) want(t *testing.T, b image) {
	t.Helper()
	b = b.with(m.wrong...)
	wantFound(t, m.what, b, m.found...)
	wantRepaired(t, m.what, b, false, b.with(m.mend...), m.left...)
	wantRepaired(t, m.what+", with force", b, true, b.with(m.forced...), m.still...)
}

type changes = []func(image)

// P21.3: each finding alone, over a disk with two labels of which slot 0's is in force.
func TestEachFindingMended(t *testing.T) {
	b := twice(severalSize, several(), 4, 3).with(bits(42, 0, 3), bits(51, 2), bits(52, 1))
	for _, m := range []mending{
		{what: "nothing is wrong"},
		{"no head", changes{wiped(0, 1)}, found(none()), nil, found(none()), nil, found(none())},
		{"a head, slot 0", changes{byteAt(0, 511, 1)}, found(head(0)), changes{wiped(0)}, nil, changes{wiped(0)}, nil},
		{"a head, slot 1", changes{byteAt(1, 511, 1)}, found(head(1)), changes{wiped(1)}, nil, changes{wiped(1)}, nil},
		{"one number", changes{sealed(1, 4)}, found(same()), nil, found(same()), changes{wiped(1)}, nil},
		{"a body not in force", changes{turned(30, 3)}, found(body(1)), changes{wiped(1)}, nil, changes{wiped(1)}, nil},
		{"the body in force", changes{turned(3, 3)}, found(body(0)), nil, found(body(0)), changes{wiped(0)}, nil},
		{"the body in force, slot 1", changes{sealed(1, 9), turned(30, 3)}, found(body(1)), nil, found(body(1)), changes{wiped(1)}, nil},
		{"notes", changes{bits(42, 8, 4095)}, found(note(0, 2)), changes{byteAt(42, 1, 0), byteAt(42, 511, 0)}, nil, changes{byteAt(42, 1, 0), byteAt(42, 511, 0)}, nil},
		{"marks", changes{bits(52, 11, 15, 16)}, found(mark(1, 3)), changes{byteAt(52, 1, 0), byteAt(52, 2, 0)}, nil, changes{byteAt(52, 1, 0), byteAt(52, 2, 0)}, nil},
		{"notes within a byte", changes{bits(51, 9, 10, 11, 15)}, found(note(1, 2)), changes{byteAt(51, 1, 0x60)}, nil, changes{byteAt(51, 1, 0x60)}, nil},
	} {
		m.want(t, b)
	}
	m := mending{"small", nil, found(small(severalSize)), nil, found(small(severalSize)), nil, found(small(severalSize))}
	m.want(t, b.cut(severalSize-1))
}

// P21.3: several findings at one time.
func TestSeveralFindingsMended(t *testing.T) {
	b := twice(severalSize, several(), 4, 3)
	bitsWrong := changes{bits(42, 0, 8), bits(64, 3, 20), bits(65, 4000)}
	ofBits := found(note(0, 1), note(2, 1), mark(2, 1))
	bitsRight := changes{byteAt(42, 1, 0), byteAt(64, 2, 0), byteAt(65, 500, 0)}
	and := func(list changes, more ...func(image)) changes { return append(append(changes(nil), list...), more...) }
	for _, m := range []mending{
		{"bits", bitsWrong, ofBits, bitsRight, nil, bitsRight, nil},
		{"a head and bits", and(bitsWrong, filled(8, 1)), append(found(head(1)), ofBits...), and(bitsRight, wiped(1)), nil, and(bitsRight, wiped(1)), nil},
		{"the other body and bits", and(bitsWrong, turned(22, 0)), append(found(body(1)), ofBits...), and(bitsRight, wiped(1)), nil, and(bitsRight, wiped(1)), nil},
		{"one number and bits", and(bitsWrong, sealed(1, 4)), append(found(same()), ofBits...), bitsRight, found(same()), and(bitsRight, wiped(1)), nil},
		{"one number, the other body", changes{sealed(1, 4), turned(22, 0)}, found(same(), body(1)), changes{wiped(1)}, nil, changes{wiped(1)}, nil},
		{"both heads", changes{filled(8, 0, 1)}, found(none(), head(0), head(1)), changes{wiped(0, 1)}, found(none()), changes{wiped(0, 1)}, found(none())},
		{"a head, and the body in force", changes{filled(8, 0), turned(22, 0)}, found(head(0), body(1)), changes{wiped(0)}, found(body(1)), changes{wiped(0, 1)}, found(none())},
		{"both bodies, slot 0 in force", changes{turned(2, 0), turned(22, 0)}, found(body(0), body(1)), changes{wiped(1)}, found(body(0)), changes{wiped(0, 1)}, found(none())},
		{"both bodies, slot 1 in force", changes{sealed(1, 5), turned(2, 0), turned(22, 0)}, found(body(0), body(1)), changes{wiped(0)}, found(body(1)), changes{wiped(0, 1)}, found(none())},
		{"one number, both bodies", changes{sealed(1, 4), turned(2, 0), turned(22, 0)}, found(same(), body(0), body(1)), changes{wiped(1)}, found(body(0)), changes{wiped(0, 1)}, found(none())},
		// Each of the two is mended, as the chapter says: no head is left.
		{"one number, the body in force", changes{sealed(1, 4), turned(2, 0)}, found(same(), body(0)), nil, found(same(), body(0)), changes{wiped(0, 1)}, found(none())},
	} {
		m.want(t, b)
	}
	for _, m := range []mending{
		{"small, and a head", changes{filled(8, 1)}, found(head(1), small(severalSize)), changes{wiped(1)}, found(small(severalSize)), changes{wiped(1)}, found(small(severalSize))},
		{"small, and the other body", changes{turned(22, 0)}, found(body(1), small(severalSize)), changes{wiped(1)}, found(small(severalSize)), changes{wiped(1)}, found(small(severalSize))},
		{"small, one number", changes{sealed(1, 4)}, found(same(), small(severalSize)), nil, found(same(), small(severalSize)), changes{wiped(1)}, found(small(severalSize))},
	} {
		m.want(t, b.cut(severalSize-1))
	}
}

// P21.3: force puts the other slot's label in force; what is found of that anew is mended, too.
func TestFoundAnew(t *testing.T) {
	b := twice(severalSize, several(), 3, 4).with(turned(22, 0))
	for _, m := range []mending{
		{"bits of the other label", changes{bits(42, 1, 8, 9), bits(51, 100), bits(52, 3, 4095), bits(75, 6)}, found(body(1)), nil, found(body(1)),
			changes{wiped(1), byteAt(42, 1, 0), byteAt(51, 12, 0), byteAt(52, 511, 0), byteAt(75, 0, 0)}, nil},
		{"the other label is right", nil, found(body(1)), nil, found(body(1)), changes{wiped(1)}, nil},
		{"the other slot has no head", changes{wiped(0)}, found(body(1)), nil, found(body(1)), changes{wiped(1)}, found(none())},
		{"the other slot has no head but bytes", changes{filled(3, 0)}, found(head(0), body(1)), changes{wiped(0)}, found(body(1)), changes{wiped(0, 1)}, found(none())},
	} {
		m.want(t, b)
	}
	small82 := mending{"the other label is too large", nil, found(body(1)), nil, found(body(1)), changes{wiped(1)}, found(small(severalSize))}
	small82.want(t, b.cut(60))

	// The two slots' labels lie otherwise: only those bits count that the one that comes in force has.
	other := fresh(severalSize, one()).with(labelled(1, several(), 2), turned(22, 0), bits(42, 8), bits(51, 100))
	otherwise := mending{"the labels lie otherwise", nil, found(body(1)), nil, found(body(1)), changes{wiped(1), byteAt(42, 1, 0)}, nil}
	otherwise.want(t, other)
}

// P21.3: bits go in the export's last byte and in later note sectors, of several exports at one time, and no other one goes.
func TestBitsGoAlone(t *testing.T) {
	l := labelOf(tracked(export("x", 4099)), tracked(export("y", 13)))
	b := blank(42 + 4 + 4099 + 2 + 13).with(labelled(0, l, 1))
	// x: notes 42, 43, marks 44, 45, data from 46 on; y: notes 4145, marks 4146.
	full := b.with(filled(255, 42, 43, 44, 45, 4145, 4146), filled(255, upTo(46, 4145)...), filled(255, upTo(4147, 4160)...))
	wantFound(t, "all bits", full, note(0, 4093), mark(0, 4093), note(1, 4083), mark(1, 4083))
	right := full.with(wiped(43, 45, 4145, 4146), byteAt(43, 0, 0xe0), byteAt(45, 0, 0xe0),
		byteAt(4145, 0, 0xff), byteAt(4145, 1, 0xf8), byteAt(4146, 0, 0xff), byteAt(4146, 1, 0xf8))
	wantRepaired(t, "all bits", full, false, right)
	wantRepaired(t, "all bits", full, true, right)
}
