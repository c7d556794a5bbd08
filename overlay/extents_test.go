package overlay_test

import (
	"testing"

	"spindle/api"
)

// P20.7: what the volume tells of holes and of unsaved bytes, among sheets, which are unsaved whatever lies below them
func TestUnsaved(t *testing.T) {
	for _, x := range []struct {
		what string
		do   func(r rig) api.Errno
		runs string
	}{
		{"nothing", func(r rig) api.Errno { return api.OK }, "0+512 512+512u 1024+512h 1536+512hu 2048+512 2560+512u 3072+512 3584+512hu"},
		{"dirty data", func(r rig) api.Errno { return r.cache.Write(smallData, stamp(50)) }, "0+1024u 1024+512h 1536+512hu 2048+512 2560+512u 3072+512 3584+512hu"},
		{"dirty data of a hole", func(r rig) api.Errno { return r.cache.Write(smallData+2, stamp(50)) }, "0+512 512+512u 1024+1024hu 2048+512 2560+512u 3072+512 3584+512hu"},
		{"dirty data below sheets", func(r rig) api.Errno {
			r.cache.Write(smallData+1, stamp(50))
			return r.cache.Write(smallData+3, stamp(50))
		}, "0+512 512+512u 1024+512h 1536+512hu 2048+512 2560+512u 3072+512 3584+512hu"},
		{"data that waits", func(r rig) api.Errno {
			r.cache.Write(smallData+4, stamp(50))
			_, e := r.cache.Back()
			return e
		}, "0+512 512+512u 1024+512h 1536+512hu 2048+1024u 3072+512 3584+512hu"},
		{"a dirty note", func(r rig) api.Errno { return r.cache.Write(smallNote, noteOf("11001111")) }, "0+1024u 1024+1024hu 2048+1536u 3584+512hu"},
		{"a note that waits, all holes", func(r rig) api.Errno { return r.disk.Write(smallNote, noteOf(none)) }, "0+512hu 512+512u 1024+1536hu 2560+512u 3072+1024hu"},
		{"a flush", func(r rig) api.Errno {
			r.cache.Write(smallData, stamp(50))
			r.cache.Write(smallNote, noteOf("11001111"))
			return r.volume.Flush()
		}, "0+512 512+512u 1024+512h 1536+512hu 2048+512 2560+512u 3072+512 3584+512hu"},
		{"an overlay's flush", func(r rig) api.Errno {
			r.cache.Write(smallData, stamp(50))
			return r.overlay.Flush()
		}, "0+1024u 1024+512h 1536+512hu 2048+512 2560+512u 3072+512 3584+512hu"},
	} {
		r := rigOf(t, 16, "11001111", "-l-h-l-h")
		wantErr(t, x.what, x.do(r), api.OK)
		t.Log(x.what)
		wantRuns(t, r.overlay, 0, smallSize, x.runs)
	}
}

// P20.7: a sheet is what it is, whatever the volume has there
func TestSheetsOverHolesAndData(t *testing.T) {
	r := rigOf(t, 16, "00110011", "lhlhlh--")
	wantRuns(t, r.overlay, 0, smallSize, "0+512u 512+512hu 1024+512u 1536+512hu 2048+512u 2560+512hu 3072+1024")
	play(t, r.overlay, call{"write", 600, 1, 1})
	wantRuns(t, r.overlay, 0, 2048, "0+1536u 1536+512hu")
	r.overlay.Drop()
	wantRuns(t, r.overlay, 0, smallSize, "0+1024h 1024+1024 2048+1024h 3072+1024")
}

// P20.7: runs begin and end with the range, whatever lies beside it
func TestRunsOfAPart(t *testing.T) {
	r := rigOf(t, 16, "11001111", "-l-h----")
	wantErr(t, "Write", r.cache.Write(smallData+4, stamp(50)), api.OK)
	for _, x := range []struct {
		off, n uint64
		runs   string
	}{
		{0, 1, "0+1"},
		{511, 1, "511+1"},
		{511, 2, "511+1 512+1u"},
		{1023, 1, "1023+1u"},
		{1023, 2, "1023+1u 1024+1h"},
		{1024, 1024, "1024+512h 1536+512hu"},
		{1500, 1000, "1500+36h 1536+512hu 2048+452u"},
		{1500, 1061, "1500+36h 1536+512hu 2048+512u 2560+1"},
		{1536, 512, "1536+512hu"},
		{1600, 1, "1600+1hu"},
		{2559, 1000, "2559+1u 2560+999"},
		{4095, 1, "4095+1"},
	} {
		wantRuns(t, r.overlay, x.off, x.n, x.runs)
	}
}

// P20.7: a question that fails ends the call, whatever was gathered
func TestExtentsThatFail(t *testing.T) {
	r := rigOf(t, 16, full, "lh------")
	arm(t, r.disk, api.Fault{Kind: reading, Sector: smallNote, Times: 1})
	runs, at, e := r.overlay.Extents(5, 2000)
	wantEnd(t, "Extents", at, e, 1024, api.ErrIO)
	want(t, "Extents: runs", len(runs), 0)
	wantRuns(t, r.overlay, 5, 2000, "5+507u 512+512hu 1024+981")
}
