package volume_test

import (
	"bytes"
	"testing"

	"spindle/api"
	"spindle/volume"
)

// R4: what is written is not changed, not kept, and neither is the room behind it
func TestWhatIsHandedIn(t *testing.T) {
	for _, n := range []int{1, 100, 512, 513, 1024, 1500} {
		for _, bits := range []string{"00000000", "11111111", "01010101"} {
			r := rigOf(t, 16, bits)
			c := call{"write", 300, n, 4}
			if n%512 == 0 {
				c.off = 512
			}
			array := c.changed(peekAll(t, r.volume))
			room := append(c.bytes(), stamp(7)...)
			before := bytes.Clone(room)
			at, e := r.volume.Write(c.off, room[:n])
			wantEnd(t, c.String(), at, e, 0, api.OK)
			wantBytes(t, "what was handed in", room, before)
			spoil(room, 0xee)
			wantBytes(t, "the array", peekAll(t, r.volume), array)
			wantErr(t, "Flush", r.volume.Flush(), api.OK)
			wantBytes(t, "the disk's array", behindCrash(t, r.disk, nil), array)
		}
	}
}

// R4: what is told is nobody else's
func TestWhatIsTold(t *testing.T) {
	r := rigOf(t, 16, "01010101")
	play(t, r.volume, call{"write", 300, 900, 4})
	array := bytes.Clone(peekAll(t, r.volume))
	before := lookAt(r.disk, r.cache)
	for _, c := range []call{{"peek", 0, 4096, 0}, {"peek", 512, 512, 0}, {"peek", 0, 512, 0}, {"peek", 100, 1, 0}, {"peek", 1024, 1024, 0}} {
		first, second := c.of(t, r.volume), c.of(t, r.volume)
		spoil(first.bytes, 0xee)
		wantBytes(t, c.String(), second.bytes, array[c.off:][:c.n])
		spoil(second.bytes, 0xdd)
		wantLook(t, c.String(), r.disk, r.cache, before)
	}
	for _, c := range []call{{"read", 0, 4096, 0}, {"read", 512, 512, 0}, {"read", 0, 512, 0}, {"read", 100, 1, 0}, {"read", 1024, 1024, 0}} {
		first, second := c.of(t, r.volume), c.of(t, r.volume)
		spoil(first.bytes, 0xee)
		wantBytes(t, c.String(), second.bytes, array[c.off:][:c.n])
		spoil(second.bytes, 0xdd)
		wantBytes(t, "the array", peekAll(t, r.volume), array)
	}
	play(t, r.volume, call{"flush", 0, 0, 0})
	wantBytes(t, "the disk's array", behindCrash(t, r.disk, nil), array)
}

// P7.9: Peek tells what Read does, asks nothing that could fail, and changes nothing
func TestPeekChangesNothing(t *testing.T) {
	for _, lines := range []int{1, 2, 5, 16} {
		r := rigOf(t, lines, "01100110")
		play(t, r.volume, call{"write", 700, 700, 1}, call{"trim", 2560, 512, 0}, call{"write", 3000, 10, 2})
		wantErr(t, "Write of the disk", r.disk.Write(smallData+7, stamp(70)), api.OK)
		var told [][]byte
		ranges := []call{{off: 0, n: 4096}, {off: 700, n: 700}, {off: 511, n: 2}, {off: 512, n: 512}, {off: 2500, n: 1000}, {off: 4095, n: 1}}
		faults := len(r.disk.Faults())
		armAll(t, r.disk)
		before := lookAt(r.disk, r.cache)
		for _, c := range ranges {
			b, e := r.volume.Peek(c.off, c.n)
			wantErr(t, "Peek", e, api.OK)
			told = append(told, b)
			wantLook(t, "Peek", r.disk, r.cache, before)
		}
		want(t, "faults ahead", faults, 0)
		r.disk.Crash(keeping(len(r.disk.Queue()), func(int) bool { return true })) // the faults go, the queue stays
		for i, c := range ranges {
			wantRead(t, r.volume, c.off, told[i])
		}
	}
}

// R4: the cache is kept and used, and others may go on using it
func TestTheCacheIsShared(t *testing.T) {
	r := rigOf(t, 4, "11000000")
	b := stamp(40)
	wantErr(t, "Write of the cache", r.cache.Write(smallData+1, b), api.OK)
	wantRead(t, r.volume, 512, b)
	wantErr(t, "Write of the cache", r.cache.Write(smallNote, noteOf("10000000")), api.OK)
	wantRead(t, r.volume, 512, make([]byte, 512))
	wantErr(t, "Write of the cache", r.cache.Write(smallNote, noteOf("01100000")), api.OK)
	wantRead(t, r.volume, 0, append(append(make([]byte, 512), b...), stamp(smallData+2)...))
}

// R9, P7.7: two volumes over one cache: each has its own bytes; Flush of one makes the other's safe, too
func TestTwoVolumes(t *testing.T) {
	for _, lines := range []int{1, 2, 4, 32} {
		d := stamped(t, 24)
		places := []api.Place{placeAt(0, 1, 2, 8), placeAt(1, 1, 12, 8)}
		c := cacheOver(t, d, lines, api.Span{First: 0, Count: 2})
		var volumes []*volume.Volume
		var arrays [][]byte
		for i, p := range places {
			lay(t, d, p.Notes.First, noteOf([]string{"01100000", "10000011"}[i]))
			volumes = append(volumes, open(t, c, p))
			arrays = append(arrays, peekAll(t, volumes[i]))
		}
		var thrower dice
		for range 200 {
			i := thrower.below(2)
			call := thrower.throwCall(8 * 512)
			play(t, volumes[i], call)
			arrays[i] = call.changed(arrays[i])
			for k, v := range volumes {
				wantBytes(t, call.String(), peekAll(t, v), arrays[k])
			}
		}
		play(t, volumes[0], call{"write", 5, 50, 1})
		play(t, volumes[1], call{"write", 1005, 50, 2})
		arrays[0], arrays[1] = peekAll(t, volumes[0]), peekAll(t, volumes[1])
		play(t, volumes[0], call{"flush", 0, 0, 0})
		wantRuns(t, volumes[1], 1024, 1, words([]api.Extent{{Off: 1024, Len: 1}}))
		d.Crash(nil)
		again := cacheOver(t, d, 4, api.Span{First: 0, Count: 2})
		for i, p := range places {
			wantBytes(t, "behind a crash", peekAll(t, open(t, again, p)), arrays[i])
		}
	}
}

// P7.10: two volumes at the same place over one cache are one array
func TestOnePlaceTwice(t *testing.T) {
	r := rigOf(t, 3, "01100000")
	other := open(t, r.cache, small())
	play(t, r.volume, call{"write", 100, 900, 1})
	wantBytes(t, "the other one", peekAll(t, other), peekAll(t, r.volume))
	play(t, other, call{"trim", 0, 1024, 0})
	wantRead(t, r.volume, 0, make([]byte, 1024))
}

// R5: two rigs that are asked alike answer alike
func TestAgain(t *testing.T) {
	for seed := range 20 {
		x, y := throw(t, 300+seed), throw(t, 300+seed)
		for range 50 {
			c := x.dice.throwCall(smallSize)
			a, b := c.of(t, x.volume), c.of(t, y.volume)
			wantEnd(t, c.String(), a.at, a.e, b.at, b.e)
			wantBytes(t, c.String(), a.bytes, b.bytes)
			want(t, c.String(), words(a.runs), words(b.runs))
			wantLook(t, c.String(), x.disk, x.cache, lookAt(y.disk, y.cache))
		}
	}
}
