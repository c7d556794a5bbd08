package volume_test

import (
	"testing"

	"spindle/api"
)

// P7.8: unsaved is a sector whose data sector is dirty, or waits at the disk; or whose note sector is, or does
func TestUnsaved(t *testing.T) {
	for _, x := range []struct {
		what string
		do   func(r rig) api.Errno
		runs string
	}{
		{"nothing", func(r rig) api.Errno { return api.OK }, "0+1024 1024+1024h 2048+2048"},
		{"clean data", func(r rig) api.Errno { _, e := r.cache.Read(6); return e }, "0+1024 1024+1024h 2048+2048"},
		{"dirty data", func(r rig) api.Errno { return r.cache.Write(6, stamp(50)) }, "0+512 512+512u 1024+1024h 2048+2048"},
		{"dirty data of a hole", func(r rig) api.Errno { return r.cache.Write(7, stamp(50)) }, "0+1024 1024+512hu 1536+512h 2048+2048"},
		{"data side by side", func(r rig) api.Errno {
			r.cache.Write(6, stamp(50))
			r.cache.Write(7, stamp(51))
			return r.cache.Write(9, stamp(52))
		}, "0+512 512+512u 1024+512hu 1536+512h 2048+512u 2560+1536"},
		{"data that waits", func(r rig) api.Errno { r.cache.Write(6, stamp(50)); _, e := r.cache.Back(); return e }, "0+512 512+512u 1024+1024h 2048+2048"},
		{"data that another one wrote", func(r rig) api.Errno { return r.disk.Write(12, stamp(50)) }, "0+1024 1024+1024h 2048+1536 3584+512u"},
		{"the same data", func(r rig) api.Errno { return r.cache.Write(6, stamp(6)) }, "0+512 512+512u 1024+1024h 2048+2048"},
		{"a dirty note", func(r rig) api.Errno { return r.cache.Write(3, noteOf("11001101")) }, "0+1024u 1024+1024hu 2048+1024u 3072+512hu 3584+512u"},
		{"a note that waits", func(r rig) api.Errno { return r.disk.Write(3, noteOf("11001111")) }, "0+1024u 1024+1024hu 2048+2048u"},
		{"other sectors", func(r rig) api.Errno {
			r.cache.Write(4, stamp(50))
			r.cache.Write(13, stamp(51))
			return r.disk.Write(2, stamp(52))
		}, "0+1024 1024+1024h 2048+2048"},
		{"a flush", func(r rig) api.Errno {
			r.cache.Write(6, stamp(50))
			r.cache.Write(3, noteOf("11001111"))
			return r.cache.Flush()
		}, "0+1024 1024+1024h 2048+2048"},
	} {
		r := rigOf(t, 16, "11001111")
		wantErr(t, x.what, x.do(r), api.OK)
		t.Log(x.what)
		wantRuns(t, r.volume, 0, smallSize, x.runs)
	}
}

// P7.8: runs begin and end with the range, whatever lies beside it
func TestRunsOfAPart(t *testing.T) {
	r := rigOf(t, 16, "11001111")
	wantErr(t, "Write", r.cache.Write(9, stamp(50)), api.OK)
	for _, x := range []struct {
		off, n uint64
		runs   string
	}{
		{0, 1, "0+1"},
		{511, 1, "511+1"},
		{511, 2, "511+2"},
		{1023, 1, "1023+1"},
		{1023, 2, "1023+1 1024+1h"},
		{1024, 1024, "1024+1024h"},
		{1500, 1000, "1500+548h 2048+452u"},
		{1500, 1061, "1500+548h 2048+512u 2560+1"},
		{2048, 512, "2048+512u"},
		{2100, 1, "2100+1u"},
		{4095, 1, "4095+1"},
		{2559, 2, "2559+1u 2560+1"},
	} {
		wantRuns(t, r.volume, x.off, x.n, x.runs)
	}
}

// P7.8: the look of a sector comes ahead of the question whether it is safe: what it writes back waits then, and what it makes safe is
func TestLookAheadOfSafe(t *testing.T) {
	// Two lines, both of them notes: the look at the volume's own note makes all safe.
	d := stamped(t, 16)
	lay(t, d, 3, noteOf("11111111"))
	c := cacheOver(t, d, 2, api.Span{First: 0, Count: 4})
	v := open(t, c, placeAt(3, 1, 5, 8))
	wantErr(t, "Write", c.Write(6, stamp(50)), api.OK)
	for _, n := range []int{0, 1} {
		wantErr(t, "Write", c.Write(n, stamp(60)), api.OK)
	}
	want(t, "the data wait", c.Safe(6), false)
	wantRuns(t, v, 0, 1024, "0+1024")
	want(t, "barriers", d.Stats().Barriers, 3) // one of them laid the bits

	// One line, with data: the look writes it back, where it waits.
	d = stamped(t, 16)
	lay(t, d, 3, noteOf("11111111"))
	c = cacheOver(t, d, 1, api.Span{First: 3, Count: 1})
	v = open(t, c, placeAt(3, 1, 5, 8))
	wantErr(t, "Write", c.Write(6, stamp(50)), api.OK)
	wantRuns(t, v, 0, 2048, "0+512 512+512u 1024+1024")
	want(t, "the queue", len(d.Queue()), 1)
}

// P7.8: a look that fails ends the call, whatever was gathered
func TestExtentsThatFail(t *testing.T) {
	r := big(t, 1, 4090, 20)
	arm(t, r.disk, api.Fault{Kind: reading, Sector: 1, Times: 1})
	runs, at, e := r.volume.Extents(4090*512+5, 9*512)
	wantEnd(t, "Extents", at, e, 4096*512, api.ErrIO)
	want(t, "Extents: runs", len(runs), 0)
}

// P7.8, P7.2: what is told is nobody else's
func TestRunsAreNew(t *testing.T) {
	r := rigOf(t, 16, "11001111")
	first, _, _ := r.volume.Extents(0, smallSize)
	told := words(first)
	spoil(first, api.Extent{Off: 99, Len: 98, Hole: true, Unsaved: true, Dirty: true})
	wantRuns(t, r.volume, 0, smallSize, told)
}
