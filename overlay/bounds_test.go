package overlay_test

import (
	"math"
	"slices"
	"testing"

	"spindle/api"
	"spindle/cache"
	"spindle/overlay"
	"spindle/volume"
)

const greatest = math.MaxUint64

var withBytes = []string{"read", "fetch", "write", "zero", "keep", "trim", "sync", "extents", "peek"}

// P20.1: a volume that is nil, and one that no call made
func TestNewOfNoVolume(t *testing.T) {
	refused, _ := volume.Open(nil, small())
	for _, v := range []*volume.Volume{nil, {}, new(volume.Volume), refused} {
		o, e := overlay.New(v)
		if o != nil || e != api.ErrArg {
			t.Errorf("New: %v, error %d, want error %d", o != nil, e, api.ErrArg)
		}
	}
}

// P20.1: without sheets, of the volume's size; nothing is read
func TestNew(t *testing.T) {
	for _, count := range []int{1, 2, 8} {
		d := stamped(t, smallDisk)
		armAll(t, d)
		c := cacheOver(t, d, 2, small().Notes)
		p := small()
		p.Data.Count = count
		v := open(t, c, p)
		o := over(t, v)
		want(t, "Size", o.Size(), uint64(count)*512)
		want(t, "sheets", len(slices.Collect(o.Sheets())), 0)
		want(t, "Drop", o.Drop(), 0)
		want(t, "the disk's counts", d.Stats(), api.DiskStats{})
		want(t, "the cache's counts", c.Stats(), api.CacheStats{})
	}
}

// P20.1: Size stays, whatever is done
func TestSizeStays(t *testing.T) {
	r := rigOf(t, 2, full, "lhlhlhlh")
	want(t, "Size", r.overlay.Size(), smallSize)
	r.overlay.Drop()
	want(t, "Size", r.overlay.Size(), smallSize)
}

// P20.2: what does not lie in the volume is refused, and nothing is done
func TestBeyondTheBounds(t *testing.T) {
	r := rigOf(t, 2, "10101010", "-lh----l")
	play(t, r.volume, call{"write", 100, 1000, 1})
	armAll(t, r.disk)
	before, array := r.look(), peekAll(t, r.overlay)
	for _, x := range []struct{ off, n uint64 }{
		{0, smallSize + 1}, {1, smallSize}, {smallSize - 1, 2}, {smallSize - 512, 513}, {smallSize, 1}, {smallSize + 1, 0}, {smallSize + 1, 1},
		{smallSize + 512, 0}, {greatest, 0}, {greatest, 1}, {greatest, greatest}, {greatest - 511, 512}, {greatest - 511, 1024}, {greatest - 512, 512},
		{1 << 63, 1 << 63}, {1 << 32, 1}, {1 << 32, 0}, {0, greatest}, {1, greatest}, {512, greatest - 511}, {smallSize, greatest - smallSize + 1},
		{0, 1 << 63}, {0, 1 << 32}, {512, 1 << 32},
	} {
		wantBounds(t, r.overlay, x.off, x.n)
		r.wantLook(t, "out of bounds", before)
		wantSheets(t, "out of bounds", r.overlay, "-lh----l")
	}
	for _, n := range []int{-1, -512, math.MinInt} {
		for _, off := range []uint64{0, 512, smallSize, uint64(-n), greatest} {
			for _, name := range []string{"read", "peek"} {
				wantAnswer(t, name, call{name, off, n, 0}.of(t, r.overlay), answer{e: api.ErrBounds})
			}
		}
	}
	r.wantLook(t, "numbers below 0", before)
	wantBytes(t, "out of bounds", peekAll(t, r.overlay), array)
}

// wantBounds looks that every call that has bytes refuses these; those that take or make so many only if they are not too many for that.
func wantBounds(t *testing.T, o *overlay.Overlay, off, n uint64) {
	t.Helper()
	for _, name := range withBytes {
		if n <= 1<<20 {
			c := call{name, off, int(n), 1}
			wantAnswer(t, c.String(), c.of(t, o), answer{e: api.ErrBounds})
		}
	}
	if n <= math.MaxInt {
		for _, name := range []string{"read", "peek"} {
			wantAnswer(t, name, call{name, off, int(n), 0}.of(t, o), answer{e: api.ErrBounds})
		}
	}
	at, e := o.Zero(off, n, false)
	wantEnd(t, "Zero", at, e, 0, api.ErrBounds)
	at, e = o.Zero(off, n, true)
	wantEnd(t, "Zero that keeps", at, e, 0, api.ErrBounds)
	at, e = o.Trim(off, n)
	wantEnd(t, "Trim", at, e, 0, api.ErrBounds)
	runs, at, e := o.Extents(off, n)
	wantEnd(t, "Extents", at, e, 0, api.ErrBounds)
	want(t, "Extents", len(runs), 0)
	at, e = o.Fetch(off, n)
	wantEnd(t, "Fetch", at, e, 0, api.ErrBounds)
	wantErr(t, "Sync", o.Sync(off, n), api.ErrBounds)
}

// P20.2: no bytes at all: nothing is done, no sheet comes, at the very end too
func TestNoBytes(t *testing.T) {
	r := rigOf(t, 2, "10101010", "-lh-----")
	play(t, r.volume, call{"write", 100, 1000, 1})
	armAll(t, r.disk)
	before := r.look()
	for _, off := range []uint64{0, 1, 100, 511, 512, 513, 1024, 1536, smallSize - 1, smallSize} {
		for _, name := range withBytes {
			c := call{name, off, 0, 0}
			wantAnswer(t, c.String(), c.of(t, r.overlay), answer{})
		}
		at, e := r.overlay.Write(off, nil)
		wantEnd(t, "Write of nil", at, e, 0, api.OK)
		r.wantLook(t, "no bytes", before)
		wantSheets(t, "no bytes", r.overlay, "-lh-----")
	}
}

// P20.2: all that lies in the volume is done, to its last byte
func TestWithinTheBounds(t *testing.T) {
	for _, name := range withBytes {
		for _, x := range []call{{off: 0, n: smallSize}, {off: smallSize - 1, n: 1}, {off: 1, n: smallSize - 1}, {off: smallSize - 512, n: 512}, {off: 0, n: 1}, {off: 511, n: 2}, {off: 512, n: 512}, {off: 513, n: 511}, {off: 512, n: 511}} {
			r := rigOf(t, 4, "10101011", "--l--h--")
			array := peekAll(t, r.overlay)
			x.name, x.fill = name, 5
			a := x.of(t, r.overlay)
			wantEnd(t, x.String(), a.at, a.e, 0, api.OK)
			wantBytes(t, x.String(), peekAll(t, r.overlay), x.changed(array))
			wantRead(t, r.overlay, 0, x.changed(array))
		}
	}
}

// R1: an overlay that is nil, or that no call made, whatever it is asked
func TestNoOverlay(t *testing.T) {
	refused, _ := overlay.New(nil)
	zero, _ := volume.Open(&cache.Cache{}, small())
	ofZero, _ := overlay.New(zero)
	for _, o := range []*overlay.Overlay{nil, {}, new(overlay.Overlay), refused, ofZero} {
		want(t, "Size", o.Size(), 0)
		for _, name := range append(slices.Clone(withBytes), "flush") {
			for _, x := range []call{{off: 0, n: 0}, {off: 0, n: 1}, {off: 512, n: 512}, {off: greatest, n: 1}, {off: greatest, n: 0}} {
				x.name = name
				wantAnswer(t, x.String(), x.of(t, o), answer{e: api.ErrNil})
			}
		}
		for _, n := range []int{-1, math.MinInt, math.MaxInt} {
			for _, name := range []string{"read", "peek"} {
				wantAnswer(t, name, call{name: name, n: n}.of(t, o), answer{e: api.ErrNil})
			}
		}
		for _, n := range []uint64{greatest, 1 << 63} {
			at, e := o.Zero(0, n, true)
			wantEnd(t, "Zero", at, e, 0, api.ErrNil)
			at, e = o.Trim(n, n)
			wantEnd(t, "Trim", at, e, 0, api.ErrNil)
		}
		want(t, "sheets", len(slices.Collect(o.Sheets())), 0)
		want(t, "Drop", o.Drop(), 0)
	}
}
