package overlay_test

import (
	"testing"

	"spindle/api"
	"spindle/disk"
)

// chapterRig is the chapter's: a volume of 2048 bytes with "aaaa" at 510, the rest holes, flushed.
func chapterRig(t *testing.T) rig {
	t.Helper()
	d, e := disk.New(8)
	wantErr(t, "the disk", e, api.OK)
	c := cacheOver(t, d, 4, span(0, 1))
	v := open(t, c, api.Place{Notes: span(0, 1), Data: span(1, 4)})
	at, e := v.Write(510, []byte("aaaa"))
	wantEnd(t, "Write", at, e, 0, api.OK)
	wantErr(t, "Flush", v.Flush(), api.OK)
	return rig{d, c, v, over(t, v)}
}

func TestExamples(t *testing.T) {
	r := chapterRig(t)
	o := r.overlay
	// 1
	at, e := o.Write(512, []byte("x"))
	wantEnd(t, "Write", at, e, 0, api.OK)
	wantRead(t, o, 512, append([]byte("xa"), make([]byte, 510)...))
	wantRead(t, o, 510, []byte("aaxa"))
	wantRead(t, r.volume, 510, []byte("aaaa"))
	wantSheets(t, "example 1", o, "-l--")
	// 2
	play(t, o, call{name: "trim", off: 0, n: 1024})
	wantSheets(t, "example 2", o, "hh--")
	wantRuns(t, o, 0, 2048, "0+1024hu 1024+1024h")
	// 3
	play(t, o, call{name: "zero", off: 1024, n: 100})
	wantSheets(t, "example 3", o, "hhl-")
	wantRead(t, o, 1024, make([]byte, 512))
	play(t, o, call{name: "zero", off: 1536, n: 512})
	wantSheets(t, "example 3", o, "hhlh")
	// 4
	want(t, "Drop", o.Drop(), 4)
	wantRead(t, o, 510, []byte("aaaa"))
	at, e = o.Write(2048, []byte("x"))
	wantEnd(t, "Write beyond the end", at, e, 0, api.ErrBounds)
	wantSheets(t, "example 4", o, "----")
	wantRead(t, r.volume, 0, append(append(make([]byte, 510), "aaaa"...), make([]byte, 2048-514)...))
}
