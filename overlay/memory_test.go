package overlay_test

import (
	"bytes"
	"testing"

	"spindle/api"
)

// R4: what is written is not changed, not kept, and neither is the room behind it
func TestWhatIsHandedIn(t *testing.T) {
	for _, n := range []int{1, 100, 512, 513, 1024, 1500} {
		for _, sheets := range []string{bare, "llllllll", "hhhhhhhh", "-lh--lh-"} {
			for _, off := range []uint64{0, 300, 512, 1000} {
				r := rigOf(t, 16, "01010101", sheets)
				c := call{"write", off, n, 4}
				array := c.changed(peekAll(t, r.overlay))
				room := append(c.bytes(), stamp(7)...)
				before := bytes.Clone(room)
				at, e := r.overlay.Write(c.off, room[:n])
				wantEnd(t, c.String(), at, e, 0, api.OK)
				wantBytes(t, "what was handed in", room, before)
				spoil(room, 0xee)
				wantBytes(t, "the array", peekAll(t, r.overlay), array)
				play(t, r.overlay, call{"write", 0, smallSize, 9})
				wantBytes(t, "what was handed in", room, bytes.Repeat([]byte{0xee}, len(room)))
			}
		}
	}
}

// R4: what is told is nobody else's
func TestWhatIsTold(t *testing.T) {
	r := rigOf(t, 16, "01010101", "-lh--lh-")
	play(t, r.overlay, call{"write", 300, 300, 4})
	array, below := bytes.Clone(peekAll(t, r.overlay)), bytes.Clone(peekAll(t, r.volume))
	for _, name := range []string{"peek", "read"} {
		for _, c := range []call{{off: 0, n: 4096}, {off: 512, n: 512}, {off: 0, n: 512}, {off: 100, n: 1}, {off: 1024, n: 1024}, {off: 600, n: 2000}, {off: 1536, n: 512}} {
			c.name = name
			first, second := c.of(t, r.overlay), c.of(t, r.overlay)
			spoil(first.bytes, 0xee)
			wantBytes(t, c.String(), second.bytes, array[c.off:][:c.n])
			spoil(second.bytes, 0xdd)
			wantBytes(t, "the array", peekAll(t, r.overlay), array)
			wantBytes(t, "the volume", peekAll(t, r.volume), below)
		}
	}
	first, _, _ := r.overlay.Extents(0, smallSize)
	told := words(first)
	spoil(first, api.Extent{Off: 99, Len: 98, Hole: true, Dirty: true})
	wantRuns(t, r.overlay, 0, smallSize, told)
}

// P20.8: Peek tells what Read does, asks nothing that could fail, and changes nothing
func TestPeekChangesNothing(t *testing.T) {
	ranges := []call{{off: 0, n: 4096}, {off: 700, n: 700}, {off: 511, n: 2}, {off: 512, n: 512}, {off: 1024, n: 512}, {off: 1030, n: 9}, {off: 2500, n: 1000}, {off: 4095, n: 1}}
	for _, lines := range []int{1, 2, 5, 16} {
		for _, sheets := range []string{bare, "-lh--lh-", "hlhlhlhl"} {
			r := rigOf(t, lines, "01100110", sheets)
			play(t, r.volume, call{"write", 700, 700, 1}, call{"trim", 2560, 512, 0}, call{"write", 3000, 10, 2})
			wantErr(t, "Write of the disk", r.disk.Write(smallData+7, stamp(70)), api.OK)
			armAll(t, r.disk)
			before := r.look()
			var told [][]byte
			for _, c := range ranges {
				b, e := r.overlay.Peek(c.off, c.n)
				wantErr(t, "Peek", e, api.OK)
				told = append(told, b)
				r.wantLook(t, "Peek", before)
				wantSheets(t, "Peek", r.overlay, sheets)
			}
			// The faults go, the queue stays, and so do the cache's lines.
			keep := make([]bool, len(r.disk.Queue()))
			for i := range keep {
				keep[i] = true
			}
			r.disk.Crash(keep)
			for i, c := range ranges {
				wantRead(t, r.overlay, c.off, told[i])
			}
		}
	}
}
