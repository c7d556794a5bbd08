package overlay_test

import (
	"testing"

	"spindle/api"
	"spindle/overlay"
)

// P20.9: two overlays of one volume, and the volume's bytes beside them, behind every operation: each has an array of its own
func TestTwoOverlays(t *testing.T) {
	for seed := range 60 {
		d := dice(7000 + seed)
		r := rigOf(t, []int{1, 2, 4, 16}[d.below(4)], "01101001", bare)
		play(t, r.volume, call{"write", 1000, 900, 5})
		below := peekAll(t, r.volume)
		overlays := []*overlay.Overlay{r.overlay, over(t, r.volume)}
		arrays := [][]byte{below, below}
		for range 50 {
			i := d.below(2)
			c := d.throwCall()
			play(t, overlays[i], c)
			arrays[i] = c.changed(arrays[i])
			if c.name == "drop" {
				arrays[i] = below
			}
			for k, o := range overlays {
				wantBytes(t, c.String()+": Peek", peekAll(t, o), arrays[k])
				wantRead(t, o, 0, arrays[k])
			}
			wantBytes(t, c.String()+": the volume", peekAll(t, r.volume), below)
			if t.Failed() {
				t.Fatal("seed", seed)
			}
		}
	}
}

// P20.9: sheets of one are no sheets of the other, and its Drop takes none of these away
func TestSheetsOfOne(t *testing.T) {
	r := rigOf(t, 4, full, "-lh-----")
	other := over(t, r.volume)
	wantSheets(t, "the other", other, bare)
	laySheets(t, other, "l---h---")
	wantSheets(t, "the one", r.overlay, "-lh-----")
	want(t, "Drop", r.overlay.Drop(), 2)
	wantSheets(t, "the other", other, "l---h---")
	third := over(t, r.volume)
	wantSheets(t, "a third", third, bare)
	wantBytes(t, "a third", peekAll(t, third), peekAll(t, r.volume))
}

// P20.9, P20.6: nothing that is done to an overlay comes to the disk, nor behind a crash; the volume's own marks of what is laid out stay, too
func TestNothingIsWritten(t *testing.T) {
	for _, lines := range []int{1, 2, 16} {
		r := rigOf(t, lines, "01101001", bare)
		before := r.disk.Stats()
		image := r.disk.Image()
		var d dice
		for range 400 {
			play(t, r.overlay, d.throwCall())
		}
		play(t, r.overlay, call{"write", 0, smallSize, 3}, call{"sync", 0, smallSize, 0}, call{name: "flush"})
		now := r.disk.Stats()
		want(t, "writes and barriers", [2]uint64{now.Writes, now.Barriers}, [2]uint64{before.Writes, before.Barriers})
		for line := range r.cache.Lines() {
			want(t, "a dirty line", line.Dirty, false)
		}
		wantRuns(t, r.volume, 0, smallSize, "0+512h 512+1024 1536+512h 2048+512 2560+1024h 3584+512")
		r.disk.Crash(nil)
		wantBytes(t, "the disk", r.disk.Image(), image)
	}
}

// P20.6: Sync and Flush make nothing safe, though the volume has something that waits
func TestNothingIsMadeSafe(t *testing.T) {
	r := rigOf(t, 16, none, "-lh-----")
	play(t, r.volume, call{"write", 0, 1500, 3})
	want(t, "a sector written back", writtenBack(t, r), smallData)
	armAll(t, r.disk)
	before := r.look()
	for _, x := range []call{{off: 0, n: smallSize}, {off: 0, n: 1}, {off: 600, n: 10}, {off: 4095, n: 1}, {off: 4096, n: 0}} {
		wantErr(t, "Sync", r.overlay.Sync(x.off, uint64(x.n)), api.OK)
		wantErr(t, "Flush", r.overlay.Flush(), api.OK)
	}
	r.wantLook(t, "Sync and Flush", before)
	wantSheets(t, "Sync and Flush", r.overlay, "-lh-----")
}

func writtenBack(t *testing.T, r rig) int {
	t.Helper()
	n, e := r.cache.Back()
	wantErr(t, "Back", e, api.OK)
	return n
}

// R4: the volume is kept and used, and may go on being used by others: a sector without a sheet is the volume's, as it is now
func TestTheVolumeIsShared(t *testing.T) {
	r := rigOf(t, 4, full, "-lh-----")
	array := peekAll(t, r.overlay)
	change := call{"write", 0, smallSize, 8}
	play(t, r.volume, change)
	becomes := change.changed(array)
	wanted := append(append(append([]byte(nil), becomes[:512]...), array[512:1536]...), becomes[1536:]...)
	wantRead(t, r.overlay, 0, wanted)
	wantBytes(t, "Peek", peekAll(t, r.overlay), wanted)
	play(t, r.volume, call{"trim", 1536, 512, 0}, call{name: "flush"})
	wantRuns(t, r.overlay, 0, 2560, "0+512 512+512u 1024+512hu 1536+512h 2048+512")
	want(t, "Drop", r.overlay.Drop(), 2)
	wantBytes(t, "behind Drop", peekAll(t, r.overlay), peekAll(t, r.volume))
}

// P20.4, P20.9: a sheet has all of its sector: what the volume becomes there is not seen any more
func TestASheetIsWhole(t *testing.T) {
	for _, c := range []call{{"write", 600, 1, 3}, {"zero", 600, 1, 0}, {"keep", 600, 1, 0}} {
		r := rigOf(t, 4, full, bare)
		array := c.changed(peekAll(t, r.overlay))
		play(t, r.overlay, c)
		play(t, r.volume, call{"write", 512, 512, 9})
		wantRead(t, r.overlay, 0, array)
		play(t, r.volume, call{"trim", 512, 512, 0})
		wantBytes(t, c.String(), peekAll(t, r.overlay), array)
	}
}

// P20.1 to P20.8, R7: as many sectors as a disk may have, under many note sectors, to the last one
func TestAGreatVolume(t *testing.T) {
	const count = api.MaxSectors - 16
	d := stamped(t, api.MaxSectors)
	for n := range 16 {
		wantErr(t, "the notes", d.Write(n, make([]byte, 512)), api.OK)
	}
	c := cacheOver(t, d, 20, span(0, 16))
	o := over(t, open(t, c, api.Place{Notes: span(0, 16), Data: span(16, count)}))
	want(t, "Size", o.Size(), count*512)
	play(t, o, call{"write", 4095*512 + 100, 1000, 1}, call{"write", count*512 - 1, 1, 2}, call{"zero", 8192 * 512, 512, 0})
	wantNumbers(t, "Sheets", numbers(o), 4095, 4096, 4097, 8192, count-1)
	wantRead(t, o, 4095*512+99, append(append([]byte{0}, call{n: 1000, fill: 1}.bytes()...), 0))
	wantRead(t, o, count*512-2, append([]byte{0}, call{n: 1, fill: 2}.bytes()...))
	play(t, o, call{"keep", 0, count * 512, 0})
	want(t, "sheets", len(numbers(o)), count)
	wantRuns(t, o, 0, count*512, "0+33546240u")
	play(t, o, call{"trim", 1, count*512 - 1, 0})
	wantRuns(t, o, 0, count*512, "0+512u 512+33545728hu")
	want(t, "Drop", o.Drop(), count)
	wantNumbers(t, "behind Drop", numbers(o))
}
