package track_test

import (
	"math"
	"testing"

	"spindle/api"
	"spindle/cache"
	"spindle/track"
	"spindle/volume"
)

func wantOpen(t *testing.T, c *cache.Cache, p api.Place, want api.Errno) {
	t.Helper()
	x, e := track.Open(c, p)
	if e != want || (x != nil) != (want == api.OK) {
		t.Errorf("Open(%v): %v, error %d, want error %d", p, x != nil, e, want)
	}
	if e == api.OK && x.Size() != uint64(p.Data.Count)*512 {
		t.Errorf("Open(%v): %d bytes", p, x.Size())
	}
}

// P19.1: too few and too many mark sectors, or marks that begin below 0, at the disk's last sector, one behind it
func TestOpenMarks(t *testing.T) {
	c := cacheOver(t, stamped(t, 16), 2)
	for _, x := range []struct {
		marks api.Span
		e     api.Errno
	}{
		{span(1, 1), api.OK},
		{span(0, 1), api.OK},
		{span(1, 0), api.ErrMarks},
		{span(1, 2), api.ErrMarks},
		{span(1, -1), api.ErrMarks},
		{span(2, -1), api.ErrMarks},
		{span(13, 2), api.ErrMarks},
		{span(0, 0), api.ErrMarks},
		{span(-1, 1), api.ErrMarks},
		{span(-1, 2), api.ErrMarks},
		{span(-5, 6), api.ErrMarks},
		{span(15, 1), api.OK},
		{span(16, 1), api.ErrMarks},
		{span(17, 1), api.ErrMarks},
		{span(16, 0), api.ErrMarks},
		{span(math.MinInt, 1), api.ErrMarks},
		{span(math.MaxInt, 1), api.ErrMarks},
		{span(math.MaxInt, math.MaxInt), api.ErrMarks},
		{span(1, math.MaxInt), api.ErrMarks},
		{span(1, math.MinInt), api.ErrMarks},
		{span(math.MinInt, math.MinInt), api.ErrMarks},
	} {
		p := small()
		p.Marks = x.marks
		wantOpen(t, c, p, x.e)
	}
}

// P19.1: marks beside the notes and the data, and marks that share a sector with them
func TestOpenApart(t *testing.T) {
	c := cacheOver(t, stamped(t, 16), 2)
	for _, p := range []api.Place{
		{Notes: span(3, 1), Data: span(5, 8)},
		{Notes: span(3, 1), Data: span(4, 2)},
		{Notes: span(13, 1), Data: span(2, 3)},
		{Notes: span(0, 1), Data: span(1, 1)},
		{Notes: span(15, 1), Data: span(14, 1)},
	} {
		for first := range 16 {
			p.Marks = span(first, 1)
			e := api.OK
			if first == p.Notes.First || first >= p.Data.First && first < p.Data.First+p.Data.Count {
				e = api.ErrMarks
			}
			wantOpen(t, c, p, e)
		}
	}
}

// P19.1: the same of two mark sectors
func TestOpenTwoMarkSectors(t *testing.T) {
	const sectors = 4112
	c := cacheOver(t, stamped(t, sectors), 2)
	p := api.Place{Notes: span(4, 2), Data: span(8, 4097)}
	for _, x := range []struct {
		first int
		e     api.Errno
	}{
		{0, api.OK}, {2, api.OK}, {3, api.ErrMarks}, {4, api.ErrMarks}, {5, api.ErrMarks}, {6, api.OK}, {7, api.ErrMarks}, {8, api.ErrMarks},
		{2000, api.ErrMarks}, {4103, api.ErrMarks}, {4104, api.ErrMarks}, {4105, api.OK}, {sectors - 2, api.OK}, {sectors - 1, api.ErrMarks}, {sectors, api.ErrMarks},
	} {
		p.Marks = span(x.first, 2)
		wantOpen(t, c, p, x.e)
	}
	for _, marks := range []api.Span{span(0, 1), span(0, 3), span(6, 1), span(0, 0)} {
		p.Marks = marks
		wantOpen(t, c, p, api.ErrMarks)
	}
}

// P19.1: an error of the volume's comes first, whatever the marks are
func TestOpenAsTheVolume(t *testing.T) {
	c := cacheOver(t, stamped(t, 16), 2)
	for _, marks := range []api.Span{span(14, 1), span(14, 2), span(-1, 1), span(5, 1), span(3, 1), span(99, 1), {}} {
		for _, p := range []api.Place{
			{},
			{Notes: span(3, 1), Data: span(5, 0)},
			{Notes: span(3, 2), Data: span(5, 8)},
			{Notes: span(3, 0), Data: span(5, 8)},
			{Notes: span(-1, 1), Data: span(5, 8)},
			{Notes: span(3, 1), Data: span(-5, 8)},
			{Notes: span(6, 1), Data: span(5, 8)},
			{Notes: span(3, 1), Data: span(5, 12)},
			{Notes: span(16, 1), Data: span(5, 8)},
			{Notes: span(3, 1), Data: span(math.MaxInt, 1)},
		} {
			p.Marks = marks
			_, e := volume.Open(c, p)
			wantErr(t, "the volume", e, api.ErrPlace)
			wantOpen(t, c, p, api.ErrPlace)
			wantOpen(t, nil, p, api.ErrArg)
			wantOpen(t, &cache.Cache{}, p, api.ErrArg)
		}
	}
}

// P19.1: nothing is read, and nothing else is done
func TestOpenReadsNothing(t *testing.T) {
	r := rigOf(t, 2, "11111111", "10101010")
	wantErr(t, "Write", r.cache.Write(smallNote, bitsOf("1111")), api.OK)
	wantErr(t, "Write", r.cache.Write(smallMark, stamp(99)), api.OK)
	wantErr(t, "Write", r.disk.Write(6, stamp(98)), api.OK)
	armAll(t, r.disk)
	before := r.look()
	for _, marks := range []api.Span{span(14, 1), span(13, 1), span(15, 1), span(16, 1), span(3, 1), span(6, 1), span(14, 2)} {
		p := small()
		p.Marks = marks
		track.Open(r.cache, p)
		r.wantLook(t, "Open", before)
	}
}

// P19.1, R7: the greatest track that a disk can have, and its very last mark
func TestTheGreatest(t *testing.T) {
	d := stamped(t, api.MaxSectors)
	for n := range 32 {
		wantErr(t, "Write of the disk", d.Write(n, make([]byte, 512)), api.OK)
	}
	wantErr(t, "Barrier", d.Barrier(), api.OK)
	c := cacheOver(t, d, 40, span(0, 16))
	p := api.Place{Notes: span(0, 16), Marks: span(16, 16), Data: span(32, 65504)}
	r := rig{d, c, open(t, c, p), p}
	size := uint64(65504 * 512)
	want(t, "Size", r.track.Size(), size)
	r.write(t, size-1, "x")
	// 65503 is 15 * 4096 + 4063, and 4063 is 8 * 507 + 7
	wantBytes(t, "the last mark sector", d.Image()[31*512:][:512], append(make([]byte, 507), 1, 0, 0, 0, 0))
	wantBytes(t, "the others", d.Image()[16*512:][:15*512], make([]byte, 15*512))
	r.wantMark(t, 65503, true)
	r.wantMark(t, 65502, false)
	r.wantMark(t, 0, false)
	_, e := r.track.Marked(65504)
	wantErr(t, "Marked", e, api.ErrArg)
	at, e := r.track.Zero(0, size, false)
	wantEnd(t, "Zero of all", at, e, 0, api.OK)
	runs, at, e := r.track.Extents(0, size)
	wantEnd(t, "Extents of all", at, e, 0, api.OK)
	want(t, "Extents of all: the last note sector alone is dirty", words(runs), "0+31457280hd 31457280+2080768hud")
	moved, e := r.track.Clear()
	wantErr(t, "Clear", e, api.OK)
	want(t, "Clear", moved, true)
	wantBytes(t, "no mark is left", d.Image()[16*512:][:16*512], make([]byte, 16*512))
}
