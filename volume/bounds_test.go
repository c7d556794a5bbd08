package volume_test

import (
	"math"
	"slices"
	"testing"

	"spindle/api"
	"spindle/cache"
	"spindle/disk"
	"spindle/volume"
)

const greatest = math.MaxUint64

// P7.2: what does not lie in the volume is refused, and nothing is done
func TestBeyondTheBounds(t *testing.T) {
	r := rigOf(t, 2, "10101010")
	play(t, r.volume, call{"write", 100, 1000, 1})
	armAll(t, r.disk)
	before := lookAt(r.disk, r.cache)
	for _, x := range []struct{ off, n uint64 }{
		{0, smallSize + 1}, {1, smallSize}, {smallSize - 1, 2}, {smallSize, 1}, {smallSize + 1, 0}, {smallSize + 1, 1},
		{smallSize + 512, 0}, {greatest, 0}, {greatest, 1}, {greatest, greatest}, {greatest - 511, 512}, {greatest - 511, 1024},
		{1 << 63, 1 << 63}, {1 << 32, 1}, {1 << 32, 0}, {0, greatest}, {1, greatest}, {512, greatest - 511}, {smallSize, greatest - smallSize + 1},
		{0, 1 << 63}, {0, 1 << 32}, {512, 1 << 32},
	} {
		wantBounds(t, r.volume, x.off, x.n)
		wantLook(t, "out of bounds", r.disk, r.cache, before)
	}
}

// wantBounds looks that every call that has bytes refuses these; those with an int for a number only if they are not too many for it.
func wantBounds(t *testing.T, v *volume.Volume, off, n uint64) {
	t.Helper()
	for name, call := range map[string]func() (uint64, api.Errno){
		"Zero":  func() (uint64, api.Errno) { return v.Zero(off, n, false) },
		"keep":  func() (uint64, api.Errno) { return v.Zero(off, n, true) },
		"Trim":  func() (uint64, api.Errno) { return v.Trim(off, n) },
		"Fetch": func() (uint64, api.Errno) { return v.Fetch(off, n) },
		"Sync":  func() (uint64, api.Errno) { return 0, v.Sync(off, n) },
		"Extents": func() (uint64, api.Errno) {
			runs, at, e := v.Extents(off, n)
			want(t, "runs", len(runs), 0)
			return at, e
		},
	} {
		at, e := call()
		wantEnd(t, name, at, e, 0, api.ErrBounds)
	}
	if n <= 1<<20 {
		at, e := v.Write(off, make([]byte, n))
		wantEnd(t, "Write", at, e, 0, api.ErrBounds)
	}
	if n <= math.MaxInt {
		wantNoBytes(t, v, off, int(n))
	}
}

func wantNoBytes(t *testing.T, v *volume.Volume, off uint64, n int) {
	t.Helper()
	for _, name := range []string{"read", "peek"} {
		c := call{name, off, n, 0}
		a := c.of(t, v)
		wantEnd(t, c.String(), a.at, a.e, 0, api.ErrBounds)
	}
}

// P7.2: a number below 0, wherever
func TestNumbersBelow0(t *testing.T) {
	r := rigOf(t, 2, "10101010")
	armAll(t, r.disk)
	before := lookAt(r.disk, r.cache)
	for _, n := range []int{-1, -2, -512, -smallSize, math.MinInt, math.MinInt + 1} {
		for _, off := range []uint64{0, 1, 512, smallSize - 1, smallSize, smallSize + 1, uint64(-n), uint64(-n) + 1, greatest} {
			wantNoBytes(t, r.volume, off, n)
		}
	}
	wantLook(t, "numbers below 0", r.disk, r.cache, before)
}

// P7.2: no bytes at all: nothing is done, not even a barrier
func TestNoBytes(t *testing.T) {
	r := rigOf(t, 2, "10101010")
	play(t, r.volume, call{"write", 100, 1000, 1})
	armAll(t, r.disk)
	before := lookAt(r.disk, r.cache)
	for _, off := range []uint64{0, 1, 100, 511, 512, 513, smallSize - 1, smallSize} {
		for _, name := range []string{"read", "fetch", "write", "zero", "keep", "trim", "sync", "extents", "peek"} {
			c := call{name, off, 0, 0}
			a := c.of(t, r.volume)
			wantEnd(t, c.String(), a.at, a.e, 0, api.OK)
			want(t, c.String(), len(a.bytes)+len(a.runs), 0)
		}
		at, e := r.volume.Write(off, nil)
		wantEnd(t, "Write of nil", at, e, 0, api.OK)
		wantLook(t, "no bytes", r.disk, r.cache, before)
	}
}

// P7.2: all that lies in the volume is done, to its last byte
func TestWithinTheBounds(t *testing.T) {
	for _, name := range []string{"read", "fetch", "write", "zero", "keep", "trim", "sync", "extents", "peek"} {
		for _, x := range []call{{off: 0, n: smallSize}, {off: smallSize - 1, n: 1}, {off: 1, n: smallSize - 1}, {off: smallSize - 512, n: 512}, {off: 0, n: 1}} {
			r := rigOf(t, 4, "10101011")
			array := peekAll(t, r.volume)
			x.name, x.fill = name, 5
			a := x.of(t, r.volume)
			wantEnd(t, x.String(), a.at, a.e, 0, api.OK)
			wantBytes(t, x.String(), peekAll(t, r.volume), x.changed(array))
			if name == "read" || name == "peek" {
				wantBytes(t, x.String(), a.bytes, array[x.off:][:x.n])
			}
			if name == "extents" && (a.runs[0].Off != x.off || sum(a.runs) != uint64(x.n)) {
				t.Errorf("%v: %s", x, words(a.runs))
			}
		}
	}
}

func sum(runs []api.Extent) uint64 {
	var n uint64
	for _, r := range runs {
		n += r.Len
	}
	return n
}

// R1: a volume that is nil, or that no call made, whatever it is asked
func TestNoVolume(t *testing.T) {
	var none *volume.Volume
	d, _ := disk.New(4)
	c, _ := cache.New(d, 1, nil)
	refused, _ := volume.Open(c, api.Place{})
	for _, v := range []*volume.Volume{none, {}, refused} {
		want(t, "Size", v.Size(), 0)
		for _, name := range []string{"read", "fetch", "write", "zero", "keep", "trim", "sync", "flush", "extents", "peek"} {
			for _, x := range []call{{off: 0, n: 0}, {off: 0, n: 1}, {off: 512, n: 512}, {off: greatest, n: 1}} {
				x.name = name
				a := x.of(t, v)
				wantEnd(t, x.String(), a.at, a.e, 0, api.ErrNil)
			}
		}
		for _, n := range []int{-1, math.MinInt, math.MaxInt} {
			for _, name := range []string{"read", "peek"} {
				a := call{name: name, n: n}.of(t, v)
				wantEnd(t, name, a.at, a.e, 0, api.ErrNil)
			}
		}
		for _, n := range []uint64{greatest, 1 << 63} {
			at, e := v.Zero(0, n, true)
			wantEnd(t, "Zero", at, e, 0, api.ErrNil)
		}
	}
	want(t, "lines", len(slices.Collect(c.Lines())), 0)
	want(t, "the disk's counts", d.Stats(), api.DiskStats{})
}
