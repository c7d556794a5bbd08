package track_test

import (
	"strconv"
	"testing"

	"spindle/api"
	"spindle/track"
	"spindle/volume"
)

// store is what a volume and a track have in common.
type store interface {
	Size() uint64
	Read(off uint64, n int) ([]byte, uint64, api.Errno)
	Write(off uint64, b []byte) (uint64, api.Errno)
	Zero(off uint64, n uint64, keep bool) (uint64, api.Errno)
	Trim(off uint64, n uint64) (uint64, api.Errno)
	Fetch(off uint64, n uint64) (uint64, api.Errno)
	Sync(off uint64, n uint64) api.Errno
	Flush() api.Errno
	Extents(off uint64, n uint64) ([]api.Extent, uint64, api.Errno)
	Peek(off uint64, n int) ([]byte, api.Errno)
}

var (
	_ store = (*track.Track)(nil)
	_ store = (*volume.Volume)(nil)
)

// call is a call of a track as plain data: read, fetch, write, zero, keep (a zero that keeps), trim, sync, flush, extents, peek, clear or marked (of sector n).
type call struct {
	name string
	off  uint64
	n    int
	fill int // of a write: which bytes
}

func (c call) String() string {
	return c.name + "(" + strconv.FormatUint(c.off, 10) + ", " + strconv.Itoa(c.n) + ")"
}

// bytes are those that a write lays down: no two fills alike, none 0.
func (c call) bytes() []byte {
	b := make([]byte, c.n)
	for i := range b {
		b[i] = 1 + byte((c.fill*91+i*7+i/251)%255)
	}
	return b
}

// answer is what a call has answered.
type answer struct {
	bytes []byte
	runs  []api.Extent
	yes   bool // of clear and marked
	at    uint64
	e     api.Errno
}

func (c call) of(t *testing.T, s store) answer {
	t.Helper()
	var a answer
	n := uint64(c.n)
	switch c.name {
	case "read":
		a.bytes, a.at, a.e = s.Read(c.off, c.n)
	case "fetch":
		a.at, a.e = s.Fetch(c.off, n)
	case "write":
		a.at, a.e = s.Write(c.off, c.bytes())
	case "zero":
		a.at, a.e = s.Zero(c.off, n, false)
	case "keep":
		a.at, a.e = s.Zero(c.off, n, true)
	case "trim":
		a.at, a.e = s.Trim(c.off, n)
	case "sync":
		a.e = s.Sync(c.off, n)
	case "flush":
		a.e = s.Flush()
	case "extents":
		a.runs, a.at, a.e = s.Extents(c.off, n)
	case "peek":
		a.bytes, a.e = s.Peek(c.off, c.n)
	case "clear":
		a.yes, a.e = s.(*track.Track).Clear()
	case "marked":
		a.yes, a.e = s.(*track.Track).Marked(c.n)
	default:
		t.Fatal("no such call:", c.name)
	}
	if a.e != api.OK && len(a.bytes)+len(a.runs) > 0 {
		t.Errorf("%v: %d bytes and %d runs beside error %d", c, len(a.bytes), len(a.runs), a.e)
	}
	return a
}

// play makes calls that go well.
func play(t *testing.T, s store, calls ...call) {
	t.Helper()
	for _, c := range calls {
		a := c.of(t, s)
		wantEnd(t, c.String(), a.at, a.e, 0, api.OK)
	}
}

// wantAnswer looks that a call has answered what was wanted of it.
func wantAnswer(t *testing.T, what string, got, wanted answer) {
	t.Helper()
	wantEnd(t, what, got.at, got.e, wanted.at, wanted.e)
	wantBytes(t, what, got.bytes, wanted.bytes)
	want(t, what, words(got.runs), words(wanted.runs))
	want(t, what, got.yes, wanted.yes)
}

// changes tells whether a call may change bytes, and marks.
func (c call) changes() bool {
	return c.name == "write" || c.name == "zero" || c.name == "keep" || c.name == "trim"
}

// changed gives the array that a call makes of another one, byte by byte (P7.10).
func (c call) changed(array []byte) []byte {
	out := append([]byte(nil), array...)
	if !c.changes() {
		return out
	}
	for i, b := range c.bytes() {
		at := int(c.off) + i
		switch {
		case c.name == "write":
			out[at] = b
		case c.name != "trim" || c.covers(at/api.SectorSize):
			out[at] = 0
		}
	}
	return out
}

// marks tells whether a call marks a sector: of a trim those of which it covers all, else those that it touches.
func (c call) marks(sector int) bool {
	if c.name == "trim" {
		return c.covers(sector)
	}
	return c.changes() && c.touches(sector)
}

// covers tells whether all bytes of a sector lie in the range.
func (c call) covers(sector int) bool {
	for i := range api.SectorSize {
		if !c.has(sector*api.SectorSize + i) {
			return false
		}
	}
	return true
}

// touches tells whether one of a sector's bytes lies in the range.
func (c call) touches(sector int) bool {
	for i := range api.SectorSize {
		if c.has(sector*api.SectorSize + i) {
			return true
		}
	}
	return false
}

func (c call) has(at int) bool { return at >= int(c.off) && at < int(c.off)+c.n }

// first is the first byte of the range that lies in a sector.
func (c call) first(sector int) uint64 {
	at := sector * api.SectorSize
	for !c.has(at) {
		at++
	}
	return uint64(at)
}

// bytesOf are those of one sector of an array.
func bytesOf(array []byte, sector int) []byte {
	return array[sector*api.SectorSize:][:api.SectorSize]
}

// wantHalfDone looks at a track behind a call that failed at a byte: nothing is changed, as by a call that failed while it marked; or changed are the sectors ahead of that one, and perhaps that one (P7.10).
func wantHalfDone(t *testing.T, c call, x *track.Track, array []byte, at uint64) {
	t.Helper()
	now, all := peekAll(t, x), c.changed(array)
	if string(now) == string(array) {
		return
	}
	for s := range len(now) / api.SectorSize {
		is, was, becomes := string(bytesOf(now, s)), string(bytesOf(array, s)), string(bytesOf(all, s))
		fault := int(at) / api.SectorSize
		switch {
		case s < fault && is != becomes:
			t.Errorf("%v failed at byte %d: sector %d, ahead of it, is not what the call makes it", c, at, s)
		case s == fault && is != becomes && is != was:
			t.Errorf("%v failed at byte %d: sector %d is neither what it was nor what the call makes it", c, at, s)
		case s > fault && is != was:
			t.Errorf("%v failed at byte %d: sector %d, behind it, is not what it was", c, at, s)
		}
	}
}
