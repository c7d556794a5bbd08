package track_test

import (
	"bytes"
	"testing"

	"spindle/api"
)

func (r rig) wantClear(t *testing.T, what string, moved bool, e api.Errno) {
	t.Helper()
	got, gotE := r.track.Clear()
	wantErr(t, what, gotE, e)
	want(t, what, got, moved)
}

// marked gives the big track with the fourth mark of each mark sector that is named, on the disk alone: those of sectors 3 and 4099.
func marked(t *testing.T, lines int, sectors ...int) rig {
	t.Helper()
	r := big(t, lines)
	for _, n := range sectors {
		lay(t, r.disk, n, firstByte(16))
	}
	return r
}

// P19.5: a mark sector that has marks is written, another one is only read
func TestClearOfSomeMarkSectors(t *testing.T) {
	for _, x := range [][]int{{}, {2}, {3}, {2, 3}} {
		for _, last := range []bool{false, true} {
			r := marked(t, 9, x...)
			if last { // the last bit of a mark sector alone, which may be no sector's
				for _, n := range x {
					lay(t, r.disk, n, append(make([]byte, 511), 1))
				}
			}
			before := r.disk.Stats()
			r.wantClear(t, "Clear", true, api.OK)
			now := r.disk.Stats()
			want(t, "reads, writes, barriers", [3]uint64{now.Reads - before.Reads, now.Writes - before.Writes, now.Barriers - before.Barriers}, [3]uint64{2, uint64(len(x)), 2})
			r.wantMarkSectors(t, "Clear", noMarks())
		}
	}
}

// P19.5: all is safe behind it, and the marks are gone behind every crash
func TestClearIsSafe(t *testing.T) {
	for _, lines := range []int{1, 2, 4, 16} {
		r := rigOf(t, lines, none, "")
		play(t, r.track, call{"write", 100, 2000, 1}, call{"trim", 512, 512, 0})
		array := bytes.Clone(peekAll(t, r.track))
		r.wantClear(t, "Clear", true, api.OK)
		want(t, "the queue", len(r.disk.Queue()), 0)
		wantRuns(t, r.track, 0, smallSize, "0+512 512+512h 1024+1536 2560+1536h")
		r.disk.Crash(nil)
		again := rigOver(t, r.disk, 2, small())
		want(t, "the marks", marksOf(t, again.track), none)
		wantBytes(t, "the bytes", peekAll(t, again.track), array)
		play(t, again.track, call{"write", 3000, 1, 1})
		want(t, "the marks", marksOf(t, again.track), "00000100")
	}
}

// P19.5: what fails in the first step moves nothing; what fails in the others answers true
func TestClearThatFails(t *testing.T) {
	for _, x := range []struct {
		what  string
		fault api.Fault
		moved bool
		left  [2]bool // of the two mark sectors: which has its marks still
	}{
		{"the data of the first flush", api.Fault{Kind: writing, Sector: 5, Times: 1}, false, [2]bool{true, true}},
		{"its barrier", api.Fault{Kind: barring, Sector: -1, Times: 1}, false, [2]bool{true, true}},
		{"its notes", api.Fault{Kind: writing, Sector: 0, Times: 1}, false, [2]bool{true, true}},
		{"its barrier behind these", api.Fault{Kind: barring, Sector: -1, After: 1, Times: 1}, false, [2]bool{true, true}},
		{"the first mark sector", api.Fault{Kind: reading, Sector: 2, Times: 1}, true, [2]bool{true, true}},
		{"the second one", api.Fault{Kind: reading, Sector: 3, Times: 1}, true, [2]bool{false, true}},
		{"the first one's write", api.Fault{Kind: writing, Sector: 2, Times: 1}, true, [2]bool{}},
		{"the second one's write", api.Fault{Kind: writing, Sector: 3, Times: 1, Land: true}, true, [2]bool{}},
		{"the last barrier", api.Fault{Kind: barring, Sector: -1, After: 2, Times: 1}, true, [2]bool{}},
	} {
		r := marked(t, 9, 2, 3)
		play(t, r.volume(t), call{"write", 0, 5, 1})
		barriers := r.disk.Stats().Barriers
		arm(t, r.disk, x.fault)
		r.wantClear(t, x.what, x.moved, api.ErrIO)
		want(t, x.what+": faults", len(r.disk.Faults()), 0)
		r.wantMark(t, 3, x.left[0])
		r.wantMark(t, 4099, x.left[1])
		if x.moved && x.fault.Kind == reading {
			want(t, x.what+": the first flush's barriers alone", r.disk.Stats().Barriers, barriers+2)
		}
		r.wantClear(t, x.what+", again", true, api.OK)
		r.wantMarkSectors(t, x.what, noMarks())
	}
}

// P19.5: behind a Clear that answered ErrIO a sector that is changed is marked, and its mark is safe
func TestMarkedBehindAClearThatFailed(t *testing.T) {
	for _, lines := range []int{1, 2, 16} {
		for _, begun := range []string{full, "00000000", "10101010", ""} {
			good := rigOf(t, lines, none, begun)
			play(t, good.track, call{"write", 0, 3000, 1})
			from := good.disk.Stats()
			good.wantClear(t, "Clear", true, api.OK)
			for _, f := range everyFault(from, good.disk.Stats()) {
				r := rigOf(t, lines, none, begun)
				play(t, r.track, call{"write", 0, 3000, 1})
				arm(t, r.disk, f)
				_, e := r.track.Clear()
				wantErr(t, "Clear", e, api.ErrIO)
				play(t, r.track, call{"write", 1000, 200, 2})
				for _, keep := range mixtures(len(r.disk.Queue()), new(dice)) {
					copied := r.disk.Copy()
					copied.Crash(keep)
					again := rigOver(t, copied, 2, small())
					again.wantMark(t, 1, true)
					again.wantMark(t, 2, true)
				}
			}
		}
	}
}
