package audit_test

import (
	"fmt"
	"math"
	"testing"

	"spindle/api"
)

// P21.5: the errors: of a's size, of b's, of a's label, of b's.
func TestDifferRefused(t *testing.T) {
	two := fresh(severalSize, several())
	kinds := []struct {
		what  string
		image image
		error func(number int) api.Errno // of Bytes
	}{
		{"no byte", nil, func(int) api.Errno { return api.ErrSectors }},
		{"511 bytes", two[:511], func(int) api.Errno { return api.ErrSectors }},
		{"no label", blank(60), func(int) api.Errno { return api.ErrNone }},
		{"a spoilt body", two.with(turned(2, 1)), func(int) api.Errno { return api.ErrNone }},
		{"one export", fresh(60, one()), func(number int) api.Errno {
			if number != 0 {
				return api.ErrArg
			}
			return api.OK
		}},
		{"four exports", two, func(number int) api.Errno {
			if number < 0 || number > 3 {
				return api.ErrArg
			}
			return api.OK
		}},
	}
	for _, a := range kinds {
		for _, b := range kinds {
			for _, number := range []int{math.MinInt, -1, 0, 1, 3, 4, math.MaxInt} {
				wanted := a.error(number)
				if wanted == api.OK || b.error(number) == api.ErrSectors {
					wanted = b.error(number)
				}
				_, e := differOf(t, a.image, b.image, number)
				want(t, fmt.Sprintf("%s and %s, export %d", a.what, b.what, number), e, wanted)
			}
		}
	}
}

// laidOut gives the image of the examples with all its sectors laid out and bytes 9.
func laidOut() image {
	return fresh(60, one()).with(bits(42, upTo(0, 8)...), filled(9, upTo(43, 51)...))
}

// unlikeAt turns bytes of the export of the examples.
func unlikeAt(places ...int) func(image) {
	return func(b image) {
		for _, at := range places {
			b[43*512+at] ^= 1
		}
	}
}

// P21.5: places that touch are one range, within sectors and over their borders; others are not.
func TestDifferRanges(t *testing.T) {
	for _, x := range []struct {
		what   string
		places []int
		want   []api.Range
	}{
		{"none", nil, nil},
		{"the first", []int{0}, []api.Range{{Lo: 0, Hi: 1}}},
		{"the last", []int{4095}, []api.Range{{Lo: 4095, Hi: 4096}}},
		{"two that touch", []int{7, 8}, []api.Range{{Lo: 7, Hi: 9}}},
		{"two with one between", []int{7, 9}, []api.Range{{Lo: 7, Hi: 8}, {Lo: 9, Hi: 10}}},
		{"over a border", []int{511, 512}, []api.Range{{Lo: 511, Hi: 513}}},
		{"ahead of a border and behind it", []int{510, 512}, []api.Range{{Lo: 510, Hi: 511}, {Lo: 512, Hi: 513}}},
		{"at a border", []int{1023}, []api.Range{{Lo: 1023, Hi: 1024}}},
		{"behind a border", []int{1024}, []api.Range{{Lo: 1024, Hi: 1025}}},
		{"a sector", upTo(1024, 1536), []api.Range{{Lo: 1024, Hi: 1536}}},
		{"two sectors", upTo(1024, 2048), []api.Range{{Lo: 1024, Hi: 2048}}},
		{"two sectors apart", append(upTo(512, 1024), upTo(1536, 2048)...), []api.Range{{Lo: 512, Hi: 1024}, {Lo: 1536, Hi: 2048}}},
		{"all", upTo(0, 4096), []api.Range{{Lo: 0, Hi: 4096}}},
		{"all but one", append(upTo(0, 2000), upTo(2001, 4096)...), []api.Range{{Lo: 0, Hi: 2000}, {Lo: 2001, Hi: 4096}}},
	} {
		wantDiffer(t, x.what, laidOut(), laidOut().with(unlikeAt(x.places...)), 0, x.want...)
		wantDiffer(t, x.what+", and itself", laidOut().with(unlikeAt(x.places...)), laidOut().with(unlikeAt(x.places...)), 0)
	}
}

// P21.5: only the exports' bytes count: not what holes have, not marks, bits beyond, other exports, labels and what is wrong with them, or how long the images are.
func TestDifferOnlyOfBytes(t *testing.T) {
	b := laidOut()
	for what, other := range map[string]image{
		"a longer image":         append(append(image(nil), b...), stamped(9)...),
		"a shorter image":        b.cut(51),
		"a wrong head":           b.with(filled(4, 1)),
		"the other slot":         b.with(wiped(0), labelled(1, described(one(), "other"), 77)),
		"one number":             b.with(labelled(1, one(), 1)),
		"a spoilt body":          b.with(labelled(0, one(), 2), labelled(1, one(), 1), turned(25, 5)),
		"bits beyond":            b.with(filled(255, 42)),
		"bytes behind all":       b.with(filled(255, upTo(51, 60)...)),
		"another label's export": b.with(labelled(1, labelOf(export("another name", 8), export("more", 1)), 9)),
	} {
		wantDiffer(t, what, b, other, 0)
	}
	holes := fresh(60, one()).with(bits(42, 2), filled(9, 45))
	wantDiffer(t, "holes with other bytes", holes, holes.with(filled(1, 43, 44), filled(200, 50)), 0)
	wantDiffer(t, "a hole and a sector of bytes 0", holes, holes.with(bits(42, 5), wiped(48)), 0)
	wantDiffer(t, "a hole and a sector with one byte", holes, holes.with(bits(42, 5), wiped(48), byteAt(48, 100, 1)), 0, api.Range{Lo: 5*512 + 100, Hi: 5*512 + 101})
	wantDiffer(t, "a sector that became a hole", holes, holes.with(byteAt(42, 0, 0)), 0, api.Range{Lo: 1024, Hi: 1536})

	marks := fresh(severalSize, several()).with(bits(51, 3))
	wantDiffer(t, "marks", marks, marks.with(bits(52, upTo(0, 30)...)), 1)
	wantDiffer(t, "another export", marks, marks.with(bits(42, 0)), 1)
	wantDiffer(t, "another export, that one", marks, marks.with(bits(42, 0)), 0, api.Range{Hi: 512})
}

// P21.5: where one is longer, all its bytes beyond the other's end count, bytes 0 too, and touch what is unlike ahead of them.
func TestDifferOfUnlikeLengths(t *testing.T) {
	longer := fresh(60, labelOf(export("longer", 11)))
	wantDiffer(t, "holes", fresh(60, one()), longer, 0, api.Range{Lo: 4096, Hi: 11 * 512})
	same := laidOut()
	much := fresh(60, labelOf(export("longer", 11))).with(bits(42, upTo(0, 8)...), filled(9, upTo(43, 51)...))
	wantDiffer(t, "the same ahead of it", same, much, 0, api.Range{Lo: 4096, Hi: 11 * 512})
	wantDiffer(t, "the last byte ahead of it", same, much.with(unlikeAt(4095)), 0, api.Range{Lo: 4095, Hi: 11 * 512})
	wantDiffer(t, "the last but one", same, much.with(unlikeAt(4094)), 0, api.Range{Lo: 4094, Hi: 4095}, api.Range{Lo: 4096, Hi: 11 * 512})
	wantDiffer(t, "bytes behind it", same, much.with(bits(42, 9), filled(9, 52)), 0, api.Range{Lo: 4096, Hi: 11 * 512})
	wantDiffer(t, "all", same, longer, 0, api.Range{Hi: 11 * 512})
}
