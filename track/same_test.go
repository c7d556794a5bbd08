package track_test

import (
	"testing"

	"spindle/api"
	"spindle/track"
)

// notOfMarks are calls that have nothing to do with marks.
func notOfMarks() []call {
	calls := []call{{name: "flush"}}
	for _, name := range []string{"read", "fetch", "sync", "peek"} {
		for _, c := range []call{{off: 0, n: smallSize}, {off: 100, n: 300}, {off: 510, n: 4}, {off: 512, n: 512}, {off: 1023, n: 1500}, {off: 4095, n: 1}, {off: 4096, n: 0}, {off: 4096, n: 1}, {off: greatest, n: 2}} {
			c.name = name
			calls = append(calls, c)
		}
	}
	return calls
}

// P19.2: Read, Fetch, Sync, Flush and Peek are the volume's: the same answers, and the same comes of them, whatever fails
func TestTheVolumesOwn(t *testing.T) {
	for _, c := range notOfMarks() {
		for _, b := range begins() {
			good := b.rig(t, "01100111", "01010101")
			from := good.disk.Stats()
			c.of(t, good.track)
			faults := everyFault(from, good.disk.Stats())
			for _, f := range append(faults, api.Fault{Kind: barring, Sector: -1, After: 99, Times: 1}) {
				r, twin := b.rig(t, "01100111", "01010101"), b.rig(t, "01100111", "01010101")
				arm(t, r.disk, f)
				arm(t, twin.disk, f)
				a, v := c.of(t, r.track), c.of(t, twin.volume(t))
				wantAnswer(t, c.String(), a, v)
				r.wantLook(t, c.String(), twin.look())
				want(t, "the marks", marksOf(t, r.track), "01010101")
			}
		}
	}
}

// P19.2: Size is the volume's, of one sector and of many
func TestSize(t *testing.T) {
	for _, count := range []int{1, 2, 7, 9} {
		r := rigOf(t, 2, full, none)
		p := small()
		p.Data.Count = count
		want(t, "Size", open(t, r.cache, p).Size(), uint64(count)*512)
	}
}

// P19.6: a mark is told as the cache's Peek tells it, wherever it stands, and nothing changes
func TestMarked(t *testing.T) {
	for _, lines := range []int{1, 2, 16} {
		for _, x := range []struct {
			what string
			do   func(r rig) api.Errno
			want string
		}{
			{"on the disk", func(r rig) api.Errno { return api.OK }, "01100101"},
			{"in a clean line", func(r rig) api.Errno { _, e := r.cache.Read(smallMark); return e }, "01100101"},
			{"in a dirty line", func(r rig) api.Errno { return r.cache.Write(smallMark, bitsOf("10011100")) }, "10011100"},
			{"in a line that was written back", func(r rig) api.Errno {
				r.cache.Write(smallMark, bitsOf("10011101"))
				_, e := r.cache.Back()
				return e
			}, "10011101"},
			{"in the queue", func(r rig) api.Errno { return r.disk.Write(smallMark, bitsOf("00000001")) }, "00000001"},
		} {
			r := rigOf(t, lines, "00110011", "01100101")
			wantErr(t, x.what, x.do(r), api.OK)
			armAll(t, r.disk)
			before := r.look()
			want(t, x.what, marksOf(t, r.track), x.want)
			r.wantLook(t, x.what, before)
		}
	}
}

// P19.3: a mark is not taken away by what else is done, be it undone too
func TestMarksStay(t *testing.T) {
	r := rigOf(t, 4, none, "")
	play(t, r.track, call{"write", 600, 10, 1}, call{"zero", 600, 10, 0}, call{"trim", 512, 512, 0}, call{name: "flush"}, call{"read", 0, smallSize, 0}, call{"sync", 0, smallSize, 0})
	want(t, "the marks", marksOf(t, r.track), "01000000")
	r.disk.Crash(nil)
	again := rigOver(t, r.disk, 2, small())
	want(t, "the marks behind a crash", marksOf(t, again.track), "01000000")
}

// P19.3, R9: two tracks over one cache mark each its own sectors, and clear each its own marks
func TestTwoTracks(t *testing.T) {
	d := stamped(t, 26)
	for n := range 4 {
		lay(t, d, n, make([]byte, 512))
	}
	c := cacheOver(t, d, 3, span(0, 2))
	places := []api.Place{{Notes: span(0, 1), Marks: span(2, 1), Data: span(4, 8)}, {Notes: span(1, 1), Marks: span(3, 1), Data: span(14, 8)}}
	var tracks []*track.Track
	var arrays [][]byte
	for _, p := range places {
		tracks = append(tracks, open(t, c, p))
		arrays = append(arrays, make([]byte, smallSize))
	}
	marks := [2][smallCount]bool{}
	var thrower dice
	for range 300 {
		i := thrower.below(2)
		x := thrower.throwCall()
		play(t, tracks[i], x)
		arrays[i] = x.changed(arrays[i])
		for s := range smallCount {
			marks[i][s] = x.name != "clear" && (marks[i][s] || x.marks(s))
		}
		for k, y := range tracks {
			wantBytes(t, x.String(), peekAll(t, y), arrays[k])
			for s, marked := range marks[k] {
				rig{track: y}.wantMark(t, s, marked)
			}
		}
	}
}
