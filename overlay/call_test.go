package overlay_test

import (
	"strconv"
	"testing"

	"spindle/api"
	"spindle/overlay"
)

// store is what an overlay and a volume have in common.
type store interface {
	Size() uint64
	Read(off uint64, n int) ([]byte, uint64, api.Errno)
	Write(off uint64, b []byte) (uint64, api.Errno)
	Zero(off uint64, n uint64, keep bool) (uint64, api.Errno)
	Trim(off uint64, n uint64) (uint64, api.Errno)
	Fetch(off uint64, n uint64) (uint64, api.Errno)
	Sync(off uint64, n uint64) api.Errno
	Flush() api.Errno
	Extents(off uint64, n uint64) ([]api.Extent, uint64, api.Errno)
	Peek(off uint64, n int) ([]byte, api.Errno)
}

// call is a call as plain data: read, fetch, write, zero, keep (a zero that keeps), trim, sync, flush, extents or peek; and drop, of an overlay.
type call struct {
	name string
	off  uint64
	n    int
	fill int // of a write: which bytes
}

func (c call) String() string {
	return c.name + "(" + strconv.FormatUint(c.off, 10) + ", " + strconv.Itoa(c.n) + ")"
}

// bytes are those that a write lays down: no two fills alike, none 0.
func (c call) bytes() []byte {
	b := make([]byte, c.n)
	for i := range b {
		b[i] = 1 + byte((c.fill*91+i*7+i/251)%255)
	}
	return b
}

// answer is what a call has answered.
type answer struct {
	bytes []byte
	runs  []api.Extent
	many  int // of drop
	at    uint64
	e     api.Errno
}

func (c call) of(t *testing.T, x store) answer {
	t.Helper()
	var a answer
	n := uint64(c.n)
	switch c.name {
	case "read":
		a.bytes, a.at, a.e = x.Read(c.off, c.n)
	case "fetch":
		a.at, a.e = x.Fetch(c.off, n)
	case "write":
		a.at, a.e = x.Write(c.off, c.bytes())
	case "zero":
		a.at, a.e = x.Zero(c.off, n, false)
	case "keep":
		a.at, a.e = x.Zero(c.off, n, true)
	case "trim":
		a.at, a.e = x.Trim(c.off, n)
	case "sync":
		a.e = x.Sync(c.off, n)
	case "flush":
		a.e = x.Flush()
	case "extents":
		a.runs, a.at, a.e = x.Extents(c.off, n)
	case "peek":
		a.bytes, a.e = x.Peek(c.off, c.n)
	case "drop":
		a.many = x.(*overlay.Overlay).Drop()
	default:
		t.Fatal("no such call:", c.name)
	}
	if a.e != api.OK && len(a.bytes)+len(a.runs) > 0 {
		t.Errorf("%v: %d bytes and %d runs beside error %d", c, len(a.bytes), len(a.runs), a.e)
	}
	return a
}

// play makes calls that go well.
func play(t *testing.T, x store, calls ...call) {
	t.Helper()
	for _, c := range calls {
		a := c.of(t, x)
		wantEnd(t, c.String(), a.at, a.e, 0, api.OK)
	}
}

// wantAnswer looks that a call has answered what was wanted of it.
func wantAnswer(t *testing.T, what string, got, wanted answer) {
	t.Helper()
	wantEnd(t, what, got.at, got.e, wanted.at, wanted.e)
	wantBytes(t, what, got.bytes, wanted.bytes)
	want(t, what, words(got.runs), words(wanted.runs))
	want(t, what, got.many, wanted.many)
}

// changed gives the array that a call makes of another one, byte by byte (P7.10).
func (c call) changed(array []byte) []byte {
	out := append([]byte(nil), array...)
	if c.name != "write" && c.name != "zero" && c.name != "keep" && c.name != "trim" {
		return out
	}
	for i, b := range c.bytes() {
		at := int(c.off) + i
		switch {
		case c.name == "write":
			out[at] = b
		case c.name != "trim" || c.covers(at/api.SectorSize):
			out[at] = 0
		}
	}
	return out
}

// covers tells whether all bytes of a sector lie in the range.
func (c call) covers(sector int) bool {
	for i := range api.SectorSize {
		if !c.has(sector*api.SectorSize + i) {
			return false
		}
	}
	return true
}

// touches tells whether one of a sector's bytes lies in the range.
func (c call) touches(sector int) bool {
	for i := range api.SectorSize {
		if c.has(sector*api.SectorSize + i) {
			return true
		}
	}
	return false
}

func (c call) has(at int) bool { return at >= int(c.off) && at < int(c.off)+c.n }

// first is the first byte of the range that lies in a sector.
func (c call) first(sector int) uint64 {
	at := sector * api.SectorSize
	for !c.has(at) {
		at++
	}
	return uint64(at)
}
