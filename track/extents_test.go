package track_test

import (
	"testing"

	"spindle/api"
)

// P19.4: each byte with what the volume told of it, and with its sector's mark; neighbours that are alike in all three are one run
func TestRuns(t *testing.T) {
	for _, x := range []struct {
		bits, marks string
		dirty       []int // data sectors that are dirty in the cache
		runs        string
	}{
		{none, none, nil, "0+4096h"},
		{none, full, nil, "0+4096hd"},
		{full, none, nil, "0+4096"},
		{full, full, nil, "0+4096d"},
		{"11110000", "00111100", nil, "0+1024 1024+1024d 2048+1024hd 3072+1024h"},
		{"11110000", "11110000", nil, "0+2048d 2048+2048h"},
		{"11110000", "00001111", nil, "0+2048 2048+2048hd"},
		{"01010101", "00110011", nil, "0+512h 512+512 1024+512hd 1536+512d 2048+512h 2560+512 3072+512hd 3584+512d"},
		{full, "01010101", nil, "0+512 512+512d 1024+512 1536+512d 2048+512 2560+512d 3072+512 3584+512d"},
		{full, "00110000", []int{1, 2}, "0+512 512+512u 1024+512ud 1536+512d 2048+2048"},
		{"11101111", "00011000", []int{2, 3}, "0+1024 1024+512u 1536+512hud 2048+512d 2560+1536"},
		{full, "01111110", []int{3, 4}, "0+512 512+1024d 1536+1024ud 2560+1024d 3584+512"},
	} {
		r := rigOf(t, 16, x.bits, x.marks)
		for _, s := range x.dirty {
			wantErr(t, "Write", r.cache.Write(smallData+s, stamp(50+s)), api.OK)
		}
		wantRuns(t, r.track, 0, smallSize, x.runs)
	}
}

// P19.4: runs begin and end with the range, whatever lies beside it
func TestRunsOfAPart(t *testing.T) {
	r := rigOf(t, 16, "11001111", "10010110")
	for _, x := range []struct {
		off, n uint64
		runs   string
	}{
		{0, 1, "0+1d"},
		{511, 1, "511+1d"},
		{511, 2, "511+1d 512+1"},
		{512, 512, "512+512"},
		{1023, 2, "1023+1 1024+1h"},
		{1024, 1024, "1024+512h 1536+512hd"},
		{1500, 1061, "1500+36h 1536+512hd 2048+512 2560+1d"},
		{2600, 900, "2600+900d"},
		{2560, 1024, "2560+1024d"},
		{2559, 1026, "2559+1 2560+1024d 3584+1"},
		{4095, 1, "4095+1"},
		{3583, 513, "3583+1d 3584+512"},
	} {
		wantRuns(t, r.track, x.off, x.n, x.runs)
	}
}

// P19.4: Unsaved is what the volume told, ahead of the marks: what their reading writes back, or makes safe, does not count; and marks that are not safe make nothing unsaved
func TestUnsavedAsTheVolumeToldIt(t *testing.T) {
	r := rigOf(t, 16, full, none)
	wantErr(t, "Write", r.cache.Write(smallMark, bitsOf("10000000")), api.OK)
	wantRuns(t, r.track, 0, 1024, "0+512d 512+512")

	// Two lines, both of them notes of which the track's is one: the reading of the marks makes all safe.
	d := stamped(t, smallDisk)
	lay(t, d, smallNote, bitsOf(full))
	c := cacheOver(t, d, 2, span(0, 4))
	x := open(t, c, small())
	wantErr(t, "Write", c.Write(smallNote, bitsOf(full)), api.OK)
	wantErr(t, "Write", c.Write(0, stamp(60)), api.OK)
	want(t, "ahead", c.Safe(smallNote), false)
	wantRuns(t, x, 3584, 512, "3584+512ud")
	want(t, "behind", c.Safe(smallNote), true)
}

// P19.4: with ErrIO nothing is told but the byte at fault, whether the volume or a mark failed
func TestExtentsThatFail(t *testing.T) {
	for _, x := range []struct {
		sector int
		at     uint64
	}{{0, 4094*512 + 7}, {1, 4096 * 512}, {2, 4094*512 + 7}, {3, 4096 * 512}} {
		r := big(t, 1)
		arm(t, r.disk, api.Fault{Kind: reading, Sector: x.sector, Times: 1})
		runs, at, e := r.track.Extents(4094*512+7, 4*512)
		wantEnd(t, "Extents", at, e, x.at, api.ErrIO)
		want(t, "Extents: runs", len(runs), 0)
		wantRuns(t, r.track, 4094*512+7, 4*512, "2096135+2048h")
	}
}

// R4: what is told is nobody else's
func TestRunsAreNew(t *testing.T) {
	r := rigOf(t, 16, "11001111", "10010110")
	first, _, _ := r.track.Extents(0, smallSize)
	told := words(first)
	second, _, _ := r.track.Extents(0, smallSize)
	spoil(first, api.Extent{Off: 99, Len: 98, Hole: true, Unsaved: true, Dirty: true})
	want(t, "another answer", words(second), told)
	wantRuns(t, r.track, 0, smallSize, told)
}
