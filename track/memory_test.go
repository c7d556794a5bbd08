package track_test

import (
	"bytes"
	"testing"

	"spindle/api"
)

// R4: what is written is not changed, not kept, and neither is the room behind it
func TestWhatIsHandedIn(t *testing.T) {
	for _, n := range []int{1, 100, 512, 513, 1024, 1500} {
		for _, bits := range []string{none, full, "01010101"} {
			r := rigOf(t, 16, bits, "00110000")
			c := call{"write", 300, n, 4}
			if n%512 == 0 {
				c.off = 512
			}
			array := c.changed(peekAll(t, r.track))
			room := append(c.bytes(), stamp(7)...)
			before := bytes.Clone(room)
			at, e := r.track.Write(c.off, room[:n])
			wantEnd(t, c.String(), at, e, 0, api.OK)
			wantBytes(t, "what was handed in", room, before)
			spoil(room, 0xee)
			wantBytes(t, "the array", peekAll(t, r.track), array)
			wantErr(t, "Flush", r.track.Flush(), api.OK)
			wantBytes(t, "the disk's array", peekAll(t, behindCrash(t, r.disk, nil)), array)
		}
	}
}

// R4: what is told is nobody else's
func TestWhatIsTold(t *testing.T) {
	r := rigOf(t, 16, "01010101", none)
	play(t, r.track, call{"write", 300, 900, 4})
	array := bytes.Clone(peekAll(t, r.track))
	for _, name := range []string{"peek", "read"} {
		for _, c := range []call{{off: 0, n: 4096}, {off: 512, n: 512}, {off: 0, n: 512}, {off: 100, n: 1}, {off: 1024, n: 1024}} {
			c.name = name
			first, second := c.of(t, r.track), c.of(t, r.track)
			spoil(first.bytes, 0xee)
			wantBytes(t, c.String(), second.bytes, array[c.off:][:c.n])
			spoil(second.bytes, 0xdd)
			wantBytes(t, "the array", peekAll(t, r.track), array)
		}
	}
	play(t, r.track, call{name: "flush"})
	wantBytes(t, "the disk's array", peekAll(t, behindCrash(t, r.disk, nil)), array)
}

// R4: the cache is kept and used, and others may go on using it: marks that another one has laid or taken away are seen
func TestTheCacheIsShared(t *testing.T) {
	r := rigOf(t, 4, full, none)
	wantErr(t, "Write of the cache", r.cache.Write(smallMark, bitsOf("01000000")), api.OK)
	want(t, "the marks", marksOf(t, r.track), "01000000")
	wantRuns(t, r.track, 0, 1536, "0+512 512+512d 1024+512")
	play(t, r.track, call{"write", 0, 1, 1})
	b, e := r.cache.Read(smallMark)
	wantErr(t, "Read of the cache", e, api.OK)
	wantBytes(t, "the mark sector", b, bitsOf("11000000"))
	wantErr(t, "Write of the cache", r.cache.Write(smallMark, bitsOf(none)), api.OK)
	play(t, r.track, call{"write", 0, 1, 1})
	want(t, "the marks", marksOf(t, r.track), "10000000")
	other := open(t, r.cache, small())
	play(t, other, call{"trim", 1024, 512, 0})
	want(t, "the marks of one place, opened twice", marksOf(t, r.track), "10100000")
	wantBytes(t, "its bytes", peekAll(t, r.track), peekAll(t, other))
}
