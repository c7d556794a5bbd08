package volume_test

import (
	"testing"

	"spindle/api"
)

// big gives a volume of two note sectors, 0 and 1, whose data begin at sector 3, over a cache of so many lines; its sectors from first on are laid out, count many.
func big(t *testing.T, lines, first, count int) rig {
	t.Helper()
	d := stamped(t, 3+4100)
	for k := range 2 {
		b := make([]byte, api.SectorSize)
		for s := max(first, k*4096); s < min(first+count, (k+1)*4096); s++ {
			b[s%4096/8] |= 128 >> (s % 8)
		}
		lay(t, d, k, b)
	}
	c := cacheOver(t, d, lines, api.Span{First: 0, Count: 2})
	return rig{d, c, open(t, c, placeAt(0, 2, 3, 4100))}
}

// P7.4 to P7.6: where each sector's bit stands: in its byte, from the highest on; the first and the last one of a note sector
func TestBits(t *testing.T) {
	for _, s := range []int{0, 1, 6, 7, 8, 9, 15, 100, 2047, 2048, 4087, 4088, 4094, 4095, 4096, 4097, 4098, 4099} {
		notes := [2][]byte{make([]byte, 512), make([]byte, 512)}
		off := uint64(s) * 512
		r := big(t, 2, 0, 0)
		play(t, r.volume, call{"write", off + 3, 5, s})
		notes[s/4096][s%4096/8] = []byte{128, 64, 32, 16, 8, 4, 2, 1}[s%8]
		wantNotes(t, r, notes)
		wantRuns(t, r.volume, off, 512, call{off: off}.sector()+"u")
		play(t, r.volume, call{"flush", 0, 0, 0})
		sector := append(append(make([]byte, 3), call{"write", 0, 5, s}.bytes()...), make([]byte, 504)...)
		wantBytes(t, "the data sector", r.disk.Image()[(3+s)*512:][:512], sector)
		wantRead(t, r.volume, off, sector)

		r = big(t, 2, 0, 4100)
		play(t, r.volume, call{"trim", off, 512, 0})
		for i := range 4100 {
			bit := byte(128 >> (i % 8))
			notes[i/4096][i%4096/8] |= bit
		}
		notes[s/4096][s%4096/8] &^= 128 >> (s % 8)
		wantNotes(t, r, notes)
		wantRead(t, r.volume, off, make([]byte, 512))
		wantRuns(t, r.volume, off, 512, call{off: off}.sector()+"hu")
	}
}

// sector tells the run of one whole sector.
func (c call) sector() string { return words([]api.Extent{{Off: c.off, Len: 512}}) }

func wantNotes(t *testing.T, r rig, notes [2][]byte) {
	t.Helper()
	for k, note := range notes {
		b, e := r.cache.Peek(k)
		wantErr(t, "Peek", e, api.OK)
		wantBytes(t, "a note sector", b, note)
	}
}

// P7.3, P7.8, P7.10: ranges over the last sector of one note sector and the first of the next one
func TestOverTwoNotes(t *testing.T) {
	for _, lines := range []int{1, 2, 9} {
		r := big(t, lines, 4095, 3)
		off := uint64(4094*512 + 100)
		b := append(append(append(make([]byte, 412), stamp(3+4095)...), stamp(3+4096)...), append(stamp(3+4097), make([]byte, 10)...)...)
		wantRead(t, r.volume, off, b)
		peeked, e := r.volume.Peek(off, len(b))
		wantErr(t, "Peek", e, api.OK)
		wantBytes(t, "Peek", peeked, b)
		wantRuns(t, r.volume, off, uint64(len(b)), "2096228+412h 2096640+1536 2098176+10h")
		array := peekAll(t, r.volume)
		for _, c := range []call{
			{"trim", 4095*512 - 1, 1026, 0}, {"write", 4095*512 + 7, 1000, 4}, {"zero", 4094 * 512, 1537, 0}, {"keep", 4096*512 - 1, 2, 0}, {"write", 4095 * 512, 2 * 512, 9},
		} {
			play(t, r.volume, c)
			array = c.changed(array)
			got, e := r.volume.Peek(4090*512, 10*512)
			wantErr(t, "Peek", e, api.OK)
			wantBytes(t, c.String(), got, array[4090*512:])
		}
		wantErr(t, "Flush", r.volume.Flush(), api.OK)
		wantBytes(t, "in the end", peekAll(t, r.volume), array)
	}
}

// P7.3 to P7.8: of a fault in the second note sector the byte at fault is the first one there
func TestFaultInTheSecondNote(t *testing.T) {
	for _, name := range []string{"read", "fetch", "write", "zero", "keep", "trim", "extents"} {
		r := big(t, 4, 4090, 10)
		arm(t, r.disk, api.Fault{Kind: reading, Sector: 1, Times: 1})
		c := call{name, 4094*512 + 9, 5 * 512, 1}
		array := peekAll(t, r.volume)
		a := c.of(t, r.volume)
		wantEnd(t, c.String(), a.at, a.e, 4096*512, api.ErrIO)
		wantHalfDone(t, c, r.volume, array, a.at)
	}
}

// P7.3 to P7.8: behind a fault in the first note sector's range nothing more is asked, of the second one neither
func TestFaultInTheFirstNote(t *testing.T) {
	for _, x := range []struct {
		name string
		read int // the sector of which the read fails
		at   uint64
	}{
		{"read", 0, 4094*512 + 9}, {"read", 3 + 4095, 4095 * 512}, {"fetch", 0, 4094*512 + 9}, {"fetch", 3 + 4095, 4095 * 512},
		{"write", 0, 4094*512 + 9}, {"write", 3 + 4094, 4094*512 + 9}, {"keep", 0, 4094*512 + 9}, {"keep", 3 + 4094, 4094*512 + 9},
		{"zero", 0, 4094*512 + 9}, {"zero", 3 + 4094, 4094*512 + 9}, {"trim", 0, 4095 * 512}, {"extents", 0, 4094*512 + 9},
	} {
		r := big(t, 4, 4090, 10)
		arm(t, r.disk, api.Fault{Kind: reading, Sector: x.read, Times: 1})
		c := call{x.name, 4094*512 + 9, 5 * 512, 1}
		array := peekAll(t, r.volume)
		a := c.of(t, r.volume)
		wantEnd(t, c.String(), a.at, a.e, x.at, api.ErrIO)
		wantHalfDone(t, c, r.volume, array, a.at)
		for l := range r.cache.Lines() {
			if l.Sector == 1 || l.Sector >= 3+4096 {
				t.Errorf("%v: sector %d was asked for behind the fault", c, l.Sector)
			}
		}
	}
}

// P7.7: Sync of a range over two note sectors makes both safe; without a dirty note only what it names
func TestSyncOverTwoNotes(t *testing.T) {
	r := big(t, 16, 0, 0)
	play(t, r.volume, call{"write", 4096*512 - 1, 2, 1}, call{"write", 0, 1, 2})
	play(t, r.volume, call{"sync", 4096 * 512, 1, 0})
	want(t, "all is safe", len(r.disk.Queue()), 0)
	for _, n := range []int{0, 1, 3, 3 + 4095, 3 + 4096} {
		want(t, "Safe", r.cache.Safe(n), true)
	}
	play(t, r.volume, call{"write", 4096*512 - 1, 2, 3}, call{"write", 0, 1, 4})
	before := r.disk.Stats()
	play(t, r.volume, call{"sync", 4096*512 - 1, 2, 0})
	for n, safe := range map[int]bool{0: true, 1: true, 3: false, 3 + 4095: true, 3 + 4096: true} {
		want(t, "Safe", r.cache.Safe(n), safe)
	}
	behind := r.disk.Stats()
	want(t, "writes and barriers", [2]uint64{behind.Writes - before.Writes, behind.Barriers - before.Barriers}, [2]uint64{2, 1})
}
