package track_test

import (
	"testing"

	"spindle/api"
)

func bigPlace() api.Place {
	return api.Place{Notes: span(0, 2), Marks: span(2, 2), Data: span(5, 4100)}
}

// big gives a track of two note sectors, 0 and 1, two mark sectors, 2 and 3, and 4100 data sectors from 5 on, holes without marks all of them, over a cache of so many lines.
func big(t *testing.T, lines int) rig {
	t.Helper()
	d := stamped(t, 5+4100)
	for n := range 4 {
		wantErr(t, "Write of the disk", d.Write(n, make([]byte, 512)), api.OK)
	}
	wantErr(t, "Barrier", d.Barrier(), api.OK)
	return rigOver(t, d, lines, bigPlace())
}

func (r rig) wantMarkSectors(t *testing.T, what string, marks [2][]byte) {
	t.Helper()
	for k, wanted := range marks {
		wantBytes(t, what+", on the disk", r.disk.Image()[(2+k)*512:][:512], wanted)
		b, e := r.cache.Peek(2 + k)
		wantErr(t, "Peek", e, api.OK)
		wantBytes(t, what, b, wanted)
	}
}

func noMarks() [2][]byte { return [2][]byte{make([]byte, 512), make([]byte, 512)} }

// P19.3, P19.6: where each sector's mark stands: in its byte, from the highest on; the first and the last one of a mark sector, and the first of the next
func TestWhereMarksStand(t *testing.T) {
	for i, s := range []int{0, 1, 6, 7, 8, 9, 100, 2048, 4087, 4088, 4094, 4095, 4096, 4097, 4099} {
		r := big(t, 2+i%3)
		marks := noMarks()
		marks[s/4096][s%4096/8] = []byte{128, 64, 32, 16, 8, 4, 2, 1}[s%8]
		off := uint64(s) * 512
		play(t, r.track, []call{{"write", off + 3, 5, s}, {"zero", off, 512, 0}, {"keep", off + 511, 1, 0}, {"trim", off, 512, 0}}[i%4])
		r.wantMarkSectors(t, "one mark", marks)
		for _, other := range []int{s - 1, s, s + 1, (s + 4096) % 4100} {
			if other >= 0 && other < 4100 {
				r.wantMark(t, other, other == s)
			}
		}
	}
}

// P19.3: a range over the last sector of one mark sector and the first of the next one: both are marked, and safe, by one barrier
func TestOverTwoMarkSectors(t *testing.T) {
	marks := noMarks()
	marks[0][511], marks[1][0] = 1, 128
	for _, lines := range []int{1, 2, 3, 9} {
		for _, c := range []call{{"write", 4096*512 - 1, 2, 1}, {"zero", 4095*512 + 5, 1000, 0}, {"keep", 4095 * 512, 1024, 0}, {"trim", 4095*512 - 1, 1026, 0}} {
			r := big(t, lines)
			play(t, r.track, c)
			r.wantMarkSectors(t, c.String(), marks)
			want(t, c.String()+": marked and safe", [2]bool{r.cache.Safe(2), r.cache.Safe(3)}, [2]bool{true, true})
			runs, _, e := r.track.Extents(4094*512, 6*512)
			wantErr(t, "Extents", e, api.OK)
			for _, run := range runs {
				want(t, "Dirty from "+words([]api.Extent{run}), run.Dirty, run.Off >= 4095*512 && run.Off < 4097*512)
			}
			if lines > 3 {
				want(t, c.String()+": the disk's counts", r.disk.Stats(), api.DiskStats{Reads: r.disk.Stats().Reads, Writes: 6, Barriers: 2})
			}
		}
	}
}

// P19.3: of two mark sectors one is not safe: it is made safe, whichever it is, though both marks stand
func TestOneOfTwoIsNotSafe(t *testing.T) {
	b := [2][]byte{make([]byte, 512), make([]byte, 512)}
	b[0][511], b[1][0] = 1, 128
	for _, dirty := range []int{0, 1} {
		r := big(t, 9)
		for k := range 2 {
			lay(t, r.disk, 2+k, b[k])
		}
		wantErr(t, "Write", r.cache.Write(2+dirty, b[dirty]), api.OK)
		before := r.disk.Stats()
		play(t, r.track, call{"write", 4096*512 - 1, 2, 1})
		now := r.disk.Stats()
		want(t, "writes and barriers", [2]uint64{now.Writes - before.Writes, now.Barriers - before.Barriers}, [2]uint64{1, 1})
		want(t, "safe", [2]bool{r.cache.Safe(2), r.cache.Safe(3)}, [2]bool{true, true})
		// Beside it nothing of the other one is asked.
		wantErr(t, "Write", r.cache.Write(2+dirty, b[dirty]), api.OK)
		before = r.disk.Stats()
		play(t, r.track, call{"write", uint64(4096-dirty) * 512, 2, 1})
		want(t, "the disk's counts", r.disk.Stats(), before)
	}
}

// P19.3: the marks of the whole track, of all whole sectors, of all but the edges
func TestManyMarks(t *testing.T) {
	allOf := func(first, end int) [2][]byte {
		marks := noMarks()
		for s := first; s < end; s++ {
			marks[s/4096][s%4096/8] |= 128 >> (s % 8)
		}
		return marks
	}
	const size = 4100 * 512
	for _, x := range []struct {
		name       string
		off, n     uint64
		first, end int
	}{{"zero", 0, size, 0, 4100}, {"trim", 0, size, 0, 4100}, {"trim", 1, size - 1, 1, 4100}, {"trim", 0, size - 1, 0, 4099}, {"trim", 511, size - 1022, 1, 4099}, {"zero", 511, size - 1022, 0, 4100}, {"zero", 512, size - 1024, 1, 4099}} {
		r := big(t, 4)
		play(t, r.track, call{x.name, x.off, int(x.n), 0})
		r.wantMarkSectors(t, x.name, allOf(x.first, x.end))
		want(t, "barriers", r.disk.Stats().Barriers, 2)
	}
}

// P19.3: behind a fault of the second mark sector the first one's marks stay, the volume is not asked, and the byte at fault is the first one there
func TestFaultInTheSecondMarkSector(t *testing.T) {
	for _, x := range []struct {
		call call
		at   uint64 // of a barrier
	}{
		{call{"write", 4095*512 + 9, 1024, 1}, 4095*512 + 9},
		{call{"zero", 4095*512 + 9, 1024, 0}, 4095*512 + 9},
		{call{"keep", 4095*512 + 9, 1024, 0}, 4095*512 + 9},
		{call{"trim", 4094*512 + 9, 5 * 512, 0}, 4094*512 + 9},
	} {
		for _, f := range []struct {
			fault api.Fault
			at    uint64
			marks string
		}{
			{api.Fault{Kind: reading, Sector: 3, Times: 1}, 4096 * 512, "10"},
			{api.Fault{Kind: barring, Sector: -1, Times: 1}, x.at, "11"},
			{api.Fault{Kind: writing, Sector: 2, Times: 1}, x.at, "11"},
			{api.Fault{Kind: writing, Sector: 3, Times: 1, Land: true}, x.at, "11"},
		} {
			r := big(t, 9)
			arm(t, r.disk, f.fault)
			a := x.call.of(t, r.track)
			wantEnd(t, x.call.String(), a.at, a.e, f.at, api.ErrIO)
			r.wantMark(t, 4095, f.marks[0] == '1')
			r.wantMark(t, 4096, f.marks[1] == '1')
			for l := range r.cache.Lines() {
				if l.Sector != 2 && l.Sector != 3 {
					t.Errorf("%v: sector %d was asked for", x.call, l.Sector)
				}
			}
		}
	}
}
