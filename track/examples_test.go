package track_test

import (
	"testing"

	"spindle/api"
	"spindle/disk"
)

// chapterRig is the chapter's: a disk of 20 sectors, a cache of 4 lines, notes {1, 1}, marks {2, 1}, data {3, 8}.
func chapterRig(t *testing.T) rig {
	t.Helper()
	d, e := disk.New(20)
	wantErr(t, "the disk", e, api.OK)
	return rigOver(t, d, 4, api.Place{Notes: span(1, 1), Marks: span(2, 1), Data: span(3, 8)})
}

func (r rig) write(t *testing.T, off uint64, text string) {
	t.Helper()
	at, e := r.track.Write(off, []byte(text))
	wantEnd(t, "Write of "+text, at, e, 0, api.OK)
}

// firstByte is a sector that has but one byte that is not 0.
func firstByte(b byte) []byte { return append([]byte{b}, make([]byte, api.SectorSize-1)...) }

func (r rig) wantMark(t *testing.T, s int, marked bool) {
	t.Helper()
	got, e := r.track.Marked(s)
	wantErr(t, "Marked", e, api.OK)
	want(t, "Marked", got, marked)
}

func TestExample1(t *testing.T) {
	r := chapterRig(t)
	want(t, "Size", r.track.Size(), 4096)
	r.write(t, 510, "abcd")
	wantBytes(t, "the mark sector on the disk", r.disk.Image()[2*512:][:512], firstByte(0xc0))
	want(t, "the queue", len(r.disk.Queue()), 0)
	want(t, "barriers", r.disk.Stats().Barriers, 1)
	want(t, "writes", r.disk.Stats().Writes, 1)
	wantBytes(t, "the data on the disk", r.disk.Image()[3*512:], make([]byte, 17*512))
	r.wantMark(t, 0, true)
	r.wantMark(t, 1, true)
	r.wantMark(t, 2, false)
}

func TestExample2(t *testing.T) {
	r := chapterRig(t)
	r.write(t, 510, "abcd")
	before := r.disk.Stats()
	r.write(t, 0, "x")
	want(t, "the disk's counts", r.disk.Stats(), before)
	b, _, e := r.track.Read(0, 1)
	wantErr(t, "Read", e, api.OK)
	wantBytes(t, "Read", b, []byte("x"))
}

func TestExamples3And4(t *testing.T) {
	r := chapterRig(t)
	r.write(t, 510, "abcd")
	r.write(t, 0, "x")
	wantRuns(t, r.track, 0, 2048, "0+1024ud 1024+1024hu")
	moved, e := r.track.Clear()
	wantErr(t, "Clear", e, api.OK)
	want(t, "Clear", moved, true)
	wantRuns(t, r.track, 0, 4096, "0+1024 1024+3072h")
	want(t, "the marks", marksOf(t, r.track), "00000000")
	play(t, r.track, call{name: "trim", off: 100, n: 300})
	want(t, "the marks", marksOf(t, r.track), "00000000")
	play(t, r.track, call{name: "trim", off: 0, n: 512})
	want(t, "the marks", marksOf(t, r.track), "10000000")
}

func TestExample5(t *testing.T) {
	r := chapterRig(t)
	arm(t, r.disk, api.Fault{Kind: barring, Sector: -1, Times: 1})
	at, e := r.track.Write(1024, []byte("x"))
	wantEnd(t, "a barrier that fails", at, e, 1024, api.ErrIO)
	wantBytes(t, "the bytes", peekAll(t, r.track), make([]byte, 4096))
	want(t, "the note sector was not asked for", r.cache.Stats(), api.CacheStats{Hits: 1, Misses: 1, Written: 1})
	r.wantMark(t, 2, true)
	before := r.disk.Stats().Barriers
	r.write(t, 1024, "x")
	want(t, "barriers", r.disk.Stats().Barriers, before+1)
	want(t, "the queue", len(r.disk.Queue()), 0)
	b, _, e := r.track.Read(1023, 3)
	wantErr(t, "Read", e, api.OK)
	wantBytes(t, "Read", b, []byte("\x00x\x00"))
}
