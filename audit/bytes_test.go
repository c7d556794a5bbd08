package audit_test

import (
	"fmt"
	"math"
	"slices"
	"testing"

	"spindle/api"
)

// P21.4: of each sector the bytes that stand there, if it is laid out, else 0, whatever stands there.
func TestBytes(t *testing.T) {
	b := fresh(90, several()).with(bits(42, 0, 3, 7), bits(51, 1, 10), bits(52, upTo(0, 11)...), bits(75, upTo(0, 6)...))
	hole := make([]byte, 512)
	wantExport(t, "some sectors", b, 0, slices.Concat(b.sector(43), hole, hole, b.sector(46), hole, hole, hole, b.sector(50)))
	wantExport(t, "the edges, with marks", b, 1, slices.Concat(hole, b.sector(54), make([]byte, 8*512), b.sector(63)))
	wantExport(t, "no sector", b, 2, make([]byte, 9*512))
	wantExport(t, "all sectors", b, 3, b[512*76:512*82])
	wantExport(t, "bits beyond", b.with(filled(255, 51)), 1, b[512*53:512*64])
	for number := range several().Exports {
		holdPair(t, "several", b, fresh(90, several()), number)
	}
}

// P21.4: bits in later note sectors are those of later sectors.
func TestBytesOfManySectors(t *testing.T) {
	l := labelOf(export("x", 8200))
	b := stamped(42+3+8200).with(wiped(upTo(0, 45)...), labelled(1, l, 9), bits(42, 0, 4095, 4096, 8191, 8192, 8199, 8200))
	wanted := make([]byte, 8200*512)
	for _, n := range []int{0, 4095, 4096, 8191, 8192, 8199} {
		copy(wanted[512*n:], b.sector(45+n))
	}
	wantExport(t, "many sectors", b, 0, wanted)
}

// P21.4: the errors, and which one is ahead.
func TestBytesRefused(t *testing.T) {
	b := fresh(severalSize, several())
	for _, number := range []int{-1, -2, 4, 5, 16, 65536, 1 << 32, math.MinInt, math.MaxInt} {
		for what, x := range map[string]struct {
			image image
			want  api.Errno
		}{
			"a label":       {b, api.ErrArg},
			"no label":      {b.with(wiped(0)), api.ErrNone},
			"a wrong head":  {b.with(byteAt(0, 9, 9)), api.ErrNone},
			"a spoilt body": {b.with(turned(2, 9)), api.ErrNone},
			"too small":     {b.cut(severalSize - 1), api.ErrNone},
			"no image":      {b[:len(b)-1], api.ErrSectors},
			"no byte":       {nil, api.ErrSectors},
		} {
			_, e := bytesOf(t, x.image, number)
			want(t, fmt.Sprint(what, ", export ", number), e, x.want)
		}
	}
	_, e := bytesOf(t, b.with(labelled(1, one(), 2)), 1)
	want(t, "an export of the label that is not in force", e, api.ErrArg)
	_, e = bytesOf(t, b.with(wiped(0)), 0)
	want(t, "no label", e, api.ErrNone)
	_, e = bytesOf(t, b.with(turned(2, 9), labelled(1, one(), 0x7000)), 0)
	want(t, "the other body is spoilt", e, api.OK)
}
