package overlay_test

import (
	"bytes"
	"slices"
	"strconv"
	"strings"
	"testing"

	"spindle/api"
	"spindle/cache"
	"spindle/disk"
	"spindle/overlay"
	"spindle/volume"
)

const (
	reading = api.FaultRead
	writing = api.FaultWrite
	barring = api.FaultBarrier
)

// The small volume: 8 sectors, from sector 5 on, whose bits stand in sector 3, on a disk of 14.
const (
	smallDisk  = 14
	smallNote  = 3
	smallData  = 5
	smallCount = 8
	smallSize  = smallCount * api.SectorSize
)

func span(first, count int) api.Span { return api.Span{First: first, Count: count} }

func small() api.Place {
	return api.Place{Notes: span(smallNote, 1), Data: span(smallData, smallCount)}
}

// stamp gives a sector's bytes that no other number gives, none of them 0.
func stamp(n int) []byte {
	b := make([]byte, api.SectorSize)
	for i := range b {
		b[i] = 1 + byte((n*37+i*(1+n%5))%255)
	}
	return b
}

// noteOf gives a note sector that begins with these bits (1 or 0 each); behind them stand others, which are no sector's.
func noteOf(bits string) []byte {
	b := bytes.Repeat([]byte{0xa6}, api.SectorSize)
	for i, bit := range bits {
		value := byte(128 >> (i % 8))
		b[i/8] &^= value
		if bit == '1' {
			b[i/8] |= value
		}
	}
	return b
}

// stamped gives a disk on which each sector has bytes of its own.
func stamped(t *testing.T, sectors int) *disk.Disk {
	t.Helper()
	var image []byte
	for n := range sectors {
		image = append(image, stamp(n)...)
	}
	d, e := disk.Load(image)
	if e != api.OK {
		t.Fatal("the disk: error", e)
	}
	return d
}

func layOnDisk(t *testing.T, d *disk.Disk, sector int, b []byte) {
	t.Helper()
	wantErr(t, "Write of the disk", d.Write(sector, b), api.OK)
	wantErr(t, "Barrier", d.Barrier(), api.OK)
}

func cacheOver(t *testing.T, d *disk.Disk, lines int, notes ...api.Span) *cache.Cache {
	t.Helper()
	c, e := cache.New(d, lines, notes)
	if e != api.OK {
		t.Fatal("the cache: error", e)
	}
	return c
}

func open(t *testing.T, c *cache.Cache, p api.Place) *volume.Volume {
	t.Helper()
	v, e := volume.Open(c, p)
	if e != api.OK {
		t.Fatalf("the volume at %v: error %d", p, e)
	}
	return v
}

func over(t *testing.T, v *volume.Volume) *overlay.Overlay {
	t.Helper()
	o, e := overlay.New(v)
	if e != api.OK || o == nil {
		t.Fatalf("New: %v, error %d", o != nil, e)
	}
	return o
}

// rig is an overlay with all that lies below it.
type rig struct {
	disk    *disk.Disk
	cache   *cache.Cache
	volume  *volume.Volume
	overlay *overlay.Overlay
}

// rigOf gives an overlay with these sheets over the small volume with these bits, whose cache may hold so many lines and has none yet.
func rigOf(t *testing.T, lines int, bits, sheets string) rig {
	t.Helper()
	d := stamped(t, smallDisk)
	layOnDisk(t, d, smallNote, noteOf(bits))
	c := cacheOver(t, d, lines, small().Notes)
	v := open(t, c, small())
	r := rig{d, c, v, over(t, v)}
	laySheets(t, r.overlay, sheets)
	return r
}

// laySheets gives sectors their sheets: l is one that is laid out, h is a hole, - is none. The volume is not asked for any of them.
func laySheets(t *testing.T, o *overlay.Overlay, sheets string) {
	t.Helper()
	for s, kind := range sheets {
		at, e := uint64(0), api.OK
		off := uint64(s) * api.SectorSize
		switch kind {
		case 'l':
			at, e = o.Write(off, stamp(100+s))
		case 'h':
			at, e = o.Trim(off, api.SectorSize)
		}
		wantEnd(t, "the sheets "+sheets, at, e, 0, api.OK)
	}
	wantSheets(t, "the sheets", o, sheets)
}

// sheetsOf tells which sectors have a sheet, in the letters of laySheets. Extents ask the volume for no sector that has one.
func sheetsOf(t *testing.T, o *overlay.Overlay) string {
	t.Helper()
	kinds := bytes.Repeat([]byte("-"), int(o.Size()/api.SectorSize))
	for s := range o.Sheets() {
		off := uint64(s) * api.SectorSize
		runs, at, e := o.Extents(off, api.SectorSize)
		wantEnd(t, "Extents of a sheet", at, e, 0, api.OK)
		switch words(runs) {
		case strconv.FormatUint(off, 10) + "+512u":
			kinds[s] = 'l'
		case strconv.FormatUint(off, 10) + "+512hu":
			kinds[s] = 'h'
		default:
			t.Errorf("the sheet of sector %d is told as %s", s, words(runs))
		}
	}
	return string(kinds)
}

func wantSheets(t *testing.T, what string, o *overlay.Overlay, sheets string) {
	t.Helper()
	want(t, what+": sheets", sheetsOf(t, o), sheets)
}

func want[T comparable](t *testing.T, what string, got, want T) {
	t.Helper()
	if got != want {
		t.Errorf("%s: %v, want %v", what, got, want)
	}
}

func wantErr(t *testing.T, what string, got, want api.Errno) {
	t.Helper()
	if got != want {
		t.Errorf("%s: error %d, want %d", what, got, want)
	}
}

// wantEnd looks at the number and the error with which a call ended.
func wantEnd(t *testing.T, what string, at uint64, e api.Errno, wantAt uint64, wantE api.Errno) {
	t.Helper()
	if at != wantAt || e != wantE {
		t.Errorf("%s: byte %d, error %d, want byte %d, error %d", what, at, e, wantAt, wantE)
	}
}

func wantBytes(t *testing.T, what string, got, want []byte) {
	t.Helper()
	if bytes.Equal(got, want) {
		return
	}
	for i := range min(len(got), len(want)) {
		if got[i] != want[i] {
			t.Errorf("%s: byte %d is %#x, want %#x", what, i, got[i], want[i])
			return
		}
	}
	t.Errorf("%s: %d bytes, want %d", what, len(got), len(want))
}

func wantRead(t *testing.T, x store, off uint64, want []byte) {
	t.Helper()
	what := "Read(" + strconv.FormatUint(off, 10) + ", " + strconv.Itoa(len(want)) + ")"
	b, at, e := x.Read(off, len(want))
	wantEnd(t, what, at, e, 0, api.OK)
	wantBytes(t, what, b, want)
}

// peekAll tells all bytes of an overlay or a volume.
func peekAll(t *testing.T, x store) []byte {
	t.Helper()
	b, e := x.Peek(0, int(x.Size()))
	wantErr(t, "Peek", e, api.OK)
	return b
}

// bytesOf are those of one sector of an array.
func bytesOf(array []byte, sector int) []byte {
	return array[sector*api.SectorSize:][:api.SectorSize]
}

// words tells runs as words: first byte, length, h if it is a hole, u if it is unsaved, d if it is dirty.
func words(runs []api.Extent) string {
	var told []string
	for _, r := range runs {
		word := strconv.FormatUint(r.Off, 10) + "+" + strconv.FormatUint(r.Len, 10)
		if r.Hole {
			word += "h"
		}
		if r.Unsaved {
			word += "u"
		}
		if r.Dirty {
			word += "d"
		}
		told = append(told, word)
	}
	return strings.Join(told, " ")
}

func wantRuns(t *testing.T, x store, off, n uint64, runs string) {
	t.Helper()
	what := "Extents(" + strconv.FormatUint(off, 10) + ", " + strconv.FormatUint(n, 10) + ")"
	got, at, e := x.Extents(off, n)
	wantEnd(t, what, at, e, 0, api.OK)
	want(t, what, words(got), runs)
}

func arm(t *testing.T, d *disk.Disk, f api.Fault) {
	t.Helper()
	wantErr(t, "Fault", d.Fault(f), api.OK)
}

// armAll lets every operation of the disk fail from now on.
func armAll(t *testing.T, d *disk.Disk) {
	t.Helper()
	for _, kind := range []int{reading, writing, barring} {
		arm(t, d, api.Fault{Kind: kind, Sector: -1, Times: 1 << 30})
	}
}

// look is all that can be told of a cache and its disk.
type look struct {
	lines  []api.Line
	held   [][]byte // the bytes of the lines
	stats  api.CacheStats
	image  []byte
	queue  []api.Put
	faults []api.Fault
	disk   api.DiskStats
}

func (r rig) look() look {
	l := look{lines: slices.Collect(r.cache.Lines()), stats: r.cache.Stats(), image: r.disk.Image(), queue: r.disk.Queue(), faults: r.disk.Faults(), disk: r.disk.Stats()}
	for _, line := range l.lines {
		b, _ := r.cache.Peek(line.Sector)
		l.held = append(l.held, b)
	}
	return l
}

func samePut(a, b api.Put) bool { return a.Sector == b.Sector && bytes.Equal(a.Data, b.Data) }

// wantLook looks that a cache and its disk are as they were told to be.
func (r rig) wantLook(t *testing.T, what string, want look) {
	t.Helper()
	got := r.look()
	switch {
	case !slices.Equal(got.lines, want.lines):
		t.Errorf("%s: lines %v, want %v", what, got.lines, want.lines)
	case !slices.EqualFunc(got.held, want.held, bytes.Equal):
		t.Errorf("%s: a line has other bytes", what)
	case got.stats != want.stats:
		t.Errorf("%s: the cache's counts %v, want %v", what, got.stats, want.stats)
	case got.disk != want.disk:
		t.Errorf("%s: the disk's counts %v, want %v", what, got.disk, want.disk)
	case !slices.EqualFunc(got.queue, want.queue, samePut):
		t.Errorf("%s: another queue", what)
	case !bytes.Equal(got.image, want.image):
		t.Errorf("%s: other safe bytes", what)
	case !slices.Equal(got.faults, want.faults):
		t.Errorf("%s: faults %v, want %v", what, got.faults, want.faults)
	}
}

// spoil overwrites a list and the spare room behind it.
func spoil[T any](list []T, with T) {
	list = list[:cap(list)]
	for i := range list {
		list[i] = with
	}
}

// dice gives numbers that look as if thrown, the same ones in each run.
type dice uint64

func (d *dice) below(n int) int {
	*d = *d*6364136223846793005 + 1442695040888963407
	return int(uint64(*d)>>33) % n
}

func (d *dice) bool() bool { return d.below(2) == 1 }
