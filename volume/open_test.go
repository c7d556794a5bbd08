package volume_test

import (
	"math"
	"testing"

	"spindle/api"
	"spindle/cache"
	"spindle/volume"
)

// bigDisk has room for a volume of 4097 sectors.
const bigDisk = 4110

func wantOpen(t *testing.T, c *cache.Cache, p api.Place, want api.Errno) {
	t.Helper()
	v, e := volume.Open(c, p)
	if e != want || (v != nil) != (want == api.OK) {
		t.Errorf("Open(%v): %v, error %d, want error %d", p, v != nil, e, want)
	}
	if e == api.OK && v.Size() != uint64(p.Data.Count)*512 {
		t.Errorf("Open(%v): %d bytes", p, v.Size())
	}
}

// P7.1: as many note sectors as the data sectors need, none more
func TestOpenCounts(t *testing.T) {
	c := cacheOver(t, stamped(t, bigDisk), 2)
	for _, x := range []struct{ data, notes int }{{1, 1}, {2, 1}, {4095, 1}, {4096, 1}, {4097, 2}, {4100, 2}} {
		for notes := -1; notes <= 4; notes++ {
			e := api.ErrPlace
			if notes == x.notes {
				e = api.OK
			}
			wantOpen(t, c, placeAt(0, notes, 6, x.data), e)
		}
	}
	for _, data := range []int{0, -1, -4096, -4097, math.MinInt} {
		for _, notes := range []int{-1, 0, 1, 2, data} {
			wantOpen(t, c, placeAt(0, notes, 6, data), api.ErrPlace)
		}
	}
}

// P7.1: a span below 0, at the disk's last sector, one behind it
func TestOpenWithin(t *testing.T) {
	c := cacheOver(t, stamped(t, 16), 2)
	for _, x := range []struct {
		place api.Place
		e     api.Errno
	}{
		{placeAt(0, 1, 1, 15), api.OK},
		{placeAt(0, 1, 1, 16), api.ErrPlace},
		{placeAt(0, 1, 2, 14), api.OK},
		{placeAt(0, 1, 2, 15), api.ErrPlace},
		{placeAt(0, 1, 15, 1), api.OK},
		{placeAt(0, 1, 16, 1), api.ErrPlace},
		{placeAt(15, 1, 0, 15), api.OK},
		{placeAt(16, 1, 0, 15), api.ErrPlace},
		{placeAt(16, 1, 0, 16), api.ErrPlace},
		{placeAt(-1, 1, 1, 4), api.ErrPlace},
		{placeAt(-1, 1, 0, 4), api.ErrPlace},
		{placeAt(5, 1, -1, 4), api.ErrPlace},
		{placeAt(5, 1, -1, 1), api.ErrPlace},
		{placeAt(5, 1, -2, 3), api.ErrPlace},
		{placeAt(math.MinInt, 1, 1, 4), api.ErrPlace},
		{placeAt(5, 1, math.MinInt, 4), api.ErrPlace},
		{placeAt(math.MaxInt, 1, 1, 4), api.ErrPlace},
		{placeAt(0, 1, math.MaxInt, 1), api.ErrPlace},
		{placeAt(0, 1, math.MaxInt, 2), api.ErrPlace},
		{placeAt(0, 1, math.MaxInt-1, 4096), api.ErrPlace},
		{placeAt(0, (math.MaxInt-1)/4096+1, 1, math.MaxInt), api.ErrPlace},
		{placeAt(0, (math.MaxInt-1)/4096+1, math.MaxInt, math.MaxInt), api.ErrPlace},
		{placeAt(math.MaxInt, (math.MaxInt-1)/4096+1, 1, math.MaxInt), api.ErrPlace},
		{placeAt(0, math.MaxInt, 1, math.MaxInt), api.ErrPlace},
		{api.Place{}, api.ErrPlace},
	} {
		wantOpen(t, c, x.place, x.e)
	}
}

// P7.1: two note sectors, of which the last one is the disk's last, or one behind it
func TestOpenNotesAtTheEnd(t *testing.T) {
	c := cacheOver(t, stamped(t, bigDisk), 2)
	wantOpen(t, c, placeAt(bigDisk-2, 2, 0, 4097), api.OK)
	wantOpen(t, c, placeAt(bigDisk-1, 2, 0, 4097), api.ErrPlace)
	wantOpen(t, c, placeAt(bigDisk, 2, 0, 4097), api.ErrPlace)
}

// P7.1: spans that lie side by side, and that share a sector
func TestOpenApart(t *testing.T) {
	c := cacheOver(t, stamped(t, bigDisk), 2)
	for notes := range 16 {
		e := api.OK
		if notes >= 5 && notes < 9 {
			e = api.ErrPlace
		}
		wantOpen(t, c, placeAt(notes, 1, 5, 4), e)
	}
	for notes := range 8 {
		e := api.OK
		if notes >= 2 && notes <= 4 {
			e = api.ErrPlace
		}
		wantOpen(t, c, placeAt(notes, 1, 2, 3), e)
	}
	for _, x := range []struct {
		notes int
		e     api.Errno
	}{{0, api.OK}, {4, api.OK}, {5, api.ErrPlace}, {6, api.ErrPlace}, {100, api.ErrPlace}, {4101, api.ErrPlace}, {4102, api.ErrPlace}, {4103, api.OK}} {
		wantOpen(t, c, placeAt(x.notes, 2, 6, 4097), x.e)
	}
}

// P7.1: marks are not looked at
func TestOpenMarks(t *testing.T) {
	c := cacheOver(t, stamped(t, 16), 2)
	for _, marks := range []api.Span{{First: -5, Count: -7}, {First: 3, Count: 1}, {First: 5, Count: 4}, {First: 99, Count: 99}} {
		p := small()
		p.Marks = marks
		wantOpen(t, c, p, api.OK)
	}
}

// P7.1: a cache that is none; that comes first
func TestOpenWithoutCache(t *testing.T) {
	for _, p := range []api.Place{small(), {}, placeAt(0, 1, 2, 4097), placeAt(-1, -1, -1, -1)} {
		wantOpen(t, nil, p, api.ErrArg)
		wantOpen(t, &cache.Cache{}, p, api.ErrArg)
	}
}

// P7.1: nothing is read, and nothing else is done
func TestOpenReadsNothing(t *testing.T) {
	d := stamped(t, smallDisk)
	c := cacheOver(t, d, 2, small().Notes)
	wantErr(t, "Write", c.Write(smallNote, noteOf("1111")), api.OK)
	wantErr(t, "Write", c.Write(smallData, stamp(99)), api.OK)
	wantErr(t, "Write", d.Write(6, stamp(98)), api.OK)
	armAll(t, d)
	before := lookAt(d, c)
	for _, p := range []api.Place{small(), placeAt(3, 1, 5, 9), placeAt(3, 1, 5, 10), placeAt(5, 1, 5, 1), {}} {
		v, e := volume.Open(c, p)
		if e == api.OK {
			want(t, "Size", v.Size(), uint64(p.Data.Count)*512)
		}
		wantLook(t, "Open", d, c, before)
	}
}

// P7.1, R7: the greatest volume that a disk can have
func TestOpenTheGreatest(t *testing.T) {
	d := stamped(t, api.MaxSectors)
	c := cacheOver(t, d, 4, api.Span{First: 0, Count: 16})
	wantOpen(t, c, placeAt(0, 16, 16, 65521), api.ErrPlace)
	wantOpen(t, c, placeAt(0, 15, 16, 65520), api.ErrPlace)
	v := open(t, c, placeAt(0, 16, 16, 65520))
	size := uint64(65520 * 512)
	want(t, "Size", v.Size(), size)
	wantErr(t, "Write", c.Write(15, make([]byte, 512)), api.OK)
	play(t, v, call{"write", size - 1, 1, 3}, call{"flush", 0, 0, 0})
	image := d.Image()
	wantBytes(t, "the last sector", image[65535*512:], append(make([]byte, 511), call{"write", 0, 1, 3}.bytes()...))
	// 65519 is 15 * 4096 + 4079, and 4079 is 8 * 509 + 7
	wantBytes(t, "the last note sector", image[15*512:][:512], append(make([]byte, 509), 1, 0, 0))
	a := call{"write", size - 1, 2, 3}.of(t, v)
	wantEnd(t, "one byte too long", a.at, a.e, 0, api.ErrBounds)
}
