package track_test

import (
	"math"
	"slices"
	"testing"

	"spindle/api"
	"spindle/cache"
	"spindle/track"
)

const greatest = math.MaxUint64

var withBytes = []string{"read", "fetch", "write", "zero", "keep", "trim", "sync", "extents", "peek"}

// P19.2 to P19.4: what does not lie in the track is refused, and nothing is marked or done
func TestBeyondTheBounds(t *testing.T) {
	r := rigOf(t, 2, "10101010", "01000000")
	play(t, r.track, call{"write", 100, 1000, 1})
	armAll(t, r.disk)
	before := r.look()
	for _, x := range []struct{ off, n uint64 }{
		{0, smallSize + 1}, {1, smallSize}, {smallSize - 1, 2}, {smallSize, 1}, {smallSize + 1, 0}, {smallSize + 1, 1},
		{smallSize + 512, 0}, {greatest, 0}, {greatest, 1}, {greatest, greatest}, {greatest - 511, 512}, {greatest - 511, 1024}, {greatest - 512, 512},
		{1 << 63, 1 << 63}, {1 << 32, 1}, {1 << 32, 0}, {0, greatest}, {1, greatest}, {512, greatest - 511}, {smallSize, greatest - smallSize + 1},
		{0, 1 << 63}, {0, 1 << 32}, {512, 1 << 32},
	} {
		wantBounds(t, r.track, x.off, x.n)
		r.wantLook(t, "out of bounds", before)
	}
	for _, n := range []int{-1, -512, math.MinInt} {
		for _, off := range []uint64{0, 512, smallSize, uint64(-n), greatest} {
			for _, name := range []string{"read", "peek"} {
				wantAnswer(t, name, call{name, off, n, 0}.of(t, r.track), answer{e: api.ErrBounds})
			}
		}
	}
	r.wantLook(t, "numbers below 0", before)
}

// wantBounds looks that every call that has bytes refuses these; those that take or make so many only if they are not too many for that.
func wantBounds(t *testing.T, x *track.Track, off, n uint64) {
	t.Helper()
	for _, name := range withBytes {
		if n <= 1<<20 {
			c := call{name, off, int(n), 1}
			wantAnswer(t, c.String(), c.of(t, x), answer{e: api.ErrBounds})
		}
	}
	at, e := x.Zero(off, n, false)
	wantEnd(t, "Zero", at, e, 0, api.ErrBounds)
	at, e = x.Zero(off, n, true)
	wantEnd(t, "Zero that keeps", at, e, 0, api.ErrBounds)
	at, e = x.Trim(off, n)
	wantEnd(t, "Trim", at, e, 0, api.ErrBounds)
	runs, at, e := x.Extents(off, n)
	wantEnd(t, "Extents", at, e, 0, api.ErrBounds)
	want(t, "Extents", len(runs), 0)
	at, e = x.Fetch(off, n)
	wantEnd(t, "Fetch", at, e, 0, api.ErrBounds)
	wantErr(t, "Sync", x.Sync(off, n), api.ErrBounds)
}

// P19.2 to P19.4: no bytes at all: nothing is done, no mark is read, no barrier comes, though a mark sector waits
func TestNoBytes(t *testing.T) {
	r := rigOf(t, 2, "10101010", "01000000")
	play(t, r.track, call{"write", 100, 1000, 1})
	wantErr(t, "Write", r.cache.Write(smallMark, bitsOf("00000000")), api.OK)
	armAll(t, r.disk)
	before := r.look()
	for _, off := range []uint64{0, 1, 100, 511, 512, 513, smallSize - 1, smallSize} {
		for _, name := range withBytes {
			c := call{name, off, 0, 0}
			wantAnswer(t, c.String(), c.of(t, r.track), answer{})
		}
		at, e := r.track.Write(off, nil)
		wantEnd(t, "Write of nil", at, e, 0, api.OK)
		r.wantLook(t, "no bytes", before)
	}
}

// P19.3: all that lies in the track is done and marked, to its last byte
func TestWithinTheBounds(t *testing.T) {
	for _, name := range withBytes {
		for _, x := range []call{{off: 0, n: smallSize}, {off: smallSize - 1, n: 1}, {off: 1, n: smallSize - 1}, {off: smallSize - 512, n: 512}, {off: 0, n: 1}, {off: 511, n: 2}, {off: 512, n: 512}, {off: 513, n: 511}, {off: 512, n: 511}} {
			r := rigOf(t, 4, "10101011", "00000000")
			array := peekAll(t, r.track)
			x.name, x.fill = name, 5
			a := x.of(t, r.track)
			wantEnd(t, x.String(), a.at, a.e, 0, api.OK)
			wantBytes(t, x.String(), peekAll(t, r.track), x.changed(array))
			for s := range smallCount {
				r.wantMark(t, s, x.marks(s))
			}
		}
	}
}

// P19.6: a sector that is not there
func TestMarkedOfNoSector(t *testing.T) {
	r := rigOf(t, 4, "11111111", "11111111") // behind its last mark there are bits that are 1, too
	for _, s := range []int{-1, -2, -4096, -smallCount, math.MinInt, smallCount, smallCount + 1, 100, 4095, 4096, math.MaxInt, math.MaxInt/512 + 1, 1 << 55} {
		marked, e := r.track.Marked(s)
		wantErr(t, "Marked", e, api.ErrArg)
		want(t, "Marked", marked, false)
	}
	r.wantMark(t, smallCount-1, true)
	r.wantMark(t, 0, true)
}

// R1: a track that is nil, or that no call made, whatever it is asked
func TestNoTrack(t *testing.T) {
	d := stamped(t, 4)
	c := cacheOver(t, d, 1)
	refused, _ := track.Open(c, api.Place{})
	marksRefused, _ := track.Open(c, api.Place{Notes: span(0, 1), Data: span(1, 1)})
	noCache, _ := track.Open(&cache.Cache{}, small())
	for _, x := range []*track.Track{nil, {}, new(track.Track), refused, marksRefused, noCache} {
		want(t, "Size", x.Size(), 0)
		for _, name := range append(slices.Clone(withBytes), "flush", "clear", "marked") {
			for _, y := range []call{{off: 0, n: 0}, {off: 0, n: 1}, {off: 512, n: 512}, {off: greatest, n: 1}, {off: greatest, n: 0}} {
				y.name = name
				wantAnswer(t, y.String(), y.of(t, x), answer{e: api.ErrNil})
			}
		}
		for _, n := range []int{-1, math.MinInt, math.MaxInt} {
			for _, name := range []string{"read", "peek", "marked"} {
				wantAnswer(t, name, call{name: name, n: n}.of(t, x), answer{e: api.ErrNil})
			}
		}
		for _, n := range []uint64{greatest, 1 << 63} {
			at, e := x.Zero(0, n, true)
			wantEnd(t, "Zero", at, e, 0, api.ErrNil)
			at, e = x.Trim(n, n)
			wantEnd(t, "Trim", at, e, 0, api.ErrNil)
		}
	}
	want(t, "lines", len(slices.Collect(c.Lines())), 0)
	want(t, "the disk's counts", d.Stats(), api.DiskStats{})
}
