package track_test

import (
	"bytes"
	"slices"
	"strconv"
	"strings"
	"testing"

	"spindle/api"
	"spindle/cache"
	"spindle/disk"
	"spindle/track"
	"spindle/volume"
)

const (
	reading = api.FaultRead
	writing = api.FaultWrite
	barring = api.FaultBarrier
)

// The small track: 8 sectors, from sector 5 on, whose bits stand in sector 3 and whose marks in sector 14, on a disk of 16.
const (
	smallDisk  = 16
	smallNote  = 3
	smallData  = 5
	smallMark  = 14
	smallCount = 8
	smallSize  = smallCount * api.SectorSize
)

func span(first, count int) api.Span { return api.Span{First: first, Count: count} }

func small() api.Place {
	return api.Place{Notes: span(smallNote, 1), Marks: span(smallMark, 1), Data: span(smallData, smallCount)}
}

// stamp gives a sector's bytes that no other number gives, none of them 0.
func stamp(n int) []byte {
	b := make([]byte, api.SectorSize)
	for i := range b {
		b[i] = 1 + byte((n*37+i*(1+n%5))%255)
	}
	return b
}

// bitsOf gives a note or mark sector that begins with these bits (1 or 0 each); behind them stand others, which are no sector's. Of no bits at all it is all 0.
func bitsOf(bits string) []byte {
	if bits == "" {
		return make([]byte, api.SectorSize)
	}
	b := bytes.Repeat([]byte{0xa6}, api.SectorSize)
	for i, bit := range bits {
		value := byte(128 >> (i % 8))
		b[i/8] &^= value
		if bit == '1' {
			b[i/8] |= value
		}
	}
	return b
}

// stamped gives a disk on which each sector has bytes of its own.
func stamped(t *testing.T, sectors int) *disk.Disk {
	t.Helper()
	var image []byte
	for n := range sectors {
		image = append(image, stamp(n)...)
	}
	d, e := disk.Load(image)
	if e != api.OK {
		t.Fatal("the disk: error", e)
	}
	return d
}

func lay(t *testing.T, d *disk.Disk, sector int, b []byte) {
	t.Helper()
	wantErr(t, "Write of the disk", d.Write(sector, b), api.OK)
	wantErr(t, "Barrier", d.Barrier(), api.OK)
}

func cacheOver(t *testing.T, d *disk.Disk, lines int, notes ...api.Span) *cache.Cache {
	t.Helper()
	c, e := cache.New(d, lines, notes)
	if e != api.OK {
		t.Fatal("the cache: error", e)
	}
	return c
}

func open(t *testing.T, c *cache.Cache, p api.Place) *track.Track {
	t.Helper()
	x, e := track.Open(c, p)
	if e != api.OK || x == nil {
		t.Fatalf("Open(%v): %v, error %d", p, x != nil, e)
	}
	return x
}

// rig is a track with all that lies below it.
type rig struct {
	disk  *disk.Disk
	cache *cache.Cache
	track *track.Track
	place api.Place
}

func rigOver(t *testing.T, d *disk.Disk, lines int, p api.Place) rig {
	t.Helper()
	c := cacheOver(t, d, lines, p.Notes)
	return rig{d, c, open(t, c, p), p}
}

// rigOf gives the small track with these bits and marks, over a cache of so many lines that has none yet.
func rigOf(t *testing.T, lines int, bits, marks string) rig {
	t.Helper()
	d := stamped(t, smallDisk)
	lay(t, d, smallNote, bitsOf(bits))
	lay(t, d, smallMark, bitsOf(marks))
	return rigOver(t, d, lines, small())
}

// volume gives the volume at the track's place, which knows nothing of marks.
func (r rig) volume(t *testing.T) *volume.Volume {
	t.Helper()
	v, e := volume.Open(r.cache, r.place)
	wantErr(t, "Open of the volume", e, api.OK)
	return v
}

func want[T comparable](t *testing.T, what string, got, want T) {
	t.Helper()
	if got != want {
		t.Errorf("%s: %v, want %v", what, got, want)
	}
}

func wantErr(t *testing.T, what string, got, want api.Errno) {
	t.Helper()
	if got != want {
		t.Errorf("%s: error %d, want %d", what, got, want)
	}
}

// wantEnd looks at the number and the error with which a call ended.
func wantEnd(t *testing.T, what string, at uint64, e api.Errno, wantAt uint64, wantE api.Errno) {
	t.Helper()
	if at != wantAt || e != wantE {
		t.Errorf("%s: byte %d, error %d, want byte %d, error %d", what, at, e, wantAt, wantE)
	}
}

func wantBytes(t *testing.T, what string, got, want []byte) {
	t.Helper()
	if bytes.Equal(got, want) {
		return
	}
	for i := range min(len(got), len(want)) {
		if got[i] != want[i] {
			t.Errorf("%s: byte %d is %#x, want %#x", what, i, got[i], want[i])
			return
		}
	}
	t.Errorf("%s: %d bytes, want %d", what, len(got), len(want))
}

func peekAll(t *testing.T, s store) []byte {
	t.Helper()
	b, e := s.Peek(0, int(s.Size()))
	wantErr(t, "Peek", e, api.OK)
	return b
}

// marksOf tells the marks of a track's sectors, 1 or 0 each.
func marksOf(t *testing.T, x *track.Track) string {
	t.Helper()
	told := ""
	for s := range int(x.Size() / api.SectorSize) {
		marked, e := x.Marked(s)
		wantErr(t, "Marked", e, api.OK)
		if marked {
			told += "1"
		} else {
			told += "0"
		}
	}
	return told
}

// words tells runs as words: first byte, length, h if it is a hole, u if it is unsaved, d if it is dirty.
func words(runs []api.Extent) string {
	var told []string
	for _, r := range runs {
		word := strconv.FormatUint(r.Off, 10) + "+" + strconv.FormatUint(r.Len, 10)
		if r.Hole {
			word += "h"
		}
		if r.Unsaved {
			word += "u"
		}
		if r.Dirty {
			word += "d"
		}
		told = append(told, word)
	}
	return strings.Join(told, " ")
}

func wantRuns(t *testing.T, x *track.Track, off, n uint64, runs string) {
	t.Helper()
	what := "Extents(" + strconv.FormatUint(off, 10) + ", " + strconv.FormatUint(n, 10) + ")"
	got, at, e := x.Extents(off, n)
	wantEnd(t, what, at, e, 0, api.OK)
	want(t, what, words(got), runs)
}

func arm(t *testing.T, d *disk.Disk, f api.Fault) {
	t.Helper()
	wantErr(t, "Fault", d.Fault(f), api.OK)
}

// armAll lets every operation of the disk fail from now on.
func armAll(t *testing.T, d *disk.Disk) {
	t.Helper()
	for _, kind := range []int{reading, writing, barring} {
		arm(t, d, api.Fault{Kind: kind, Sector: -1, Times: 1 << 30})
	}
}

// look is all that can be told of a cache and its disk.
type look struct {
	lines  []api.Line
	held   [][]byte // the bytes of the lines
	stats  api.CacheStats
	image  []byte
	queue  []api.Put
	faults []api.Fault
	disk   api.DiskStats
}

func (r rig) look() look {
	l := look{lines: slices.Collect(r.cache.Lines()), stats: r.cache.Stats(), image: r.disk.Image(), queue: r.disk.Queue(), faults: r.disk.Faults(), disk: r.disk.Stats()}
	for _, line := range l.lines {
		b, _ := r.cache.Peek(line.Sector)
		l.held = append(l.held, b)
	}
	return l
}

func samePut(a, b api.Put) bool { return a.Sector == b.Sector && bytes.Equal(a.Data, b.Data) }

// wantLook looks that a cache and its disk are as they were told to be.
func (r rig) wantLook(t *testing.T, what string, want look) {
	t.Helper()
	got := r.look()
	switch {
	case !slices.Equal(got.lines, want.lines):
		t.Errorf("%s: lines %v, want %v", what, got.lines, want.lines)
	case !slices.EqualFunc(got.held, want.held, bytes.Equal):
		t.Errorf("%s: a line has other bytes", what)
	case got.stats != want.stats:
		t.Errorf("%s: the cache's counts %v, want %v", what, got.stats, want.stats)
	case got.disk != want.disk:
		t.Errorf("%s: the disk's counts %v, want %v", what, got.disk, want.disk)
	case !slices.EqualFunc(got.queue, want.queue, samePut):
		t.Errorf("%s: another queue", what)
	case !bytes.Equal(got.image, want.image):
		t.Errorf("%s: other safe bytes", what)
	case !slices.Equal(got.faults, want.faults):
		t.Errorf("%s: faults %v, want %v", what, got.faults, want.faults)
	}
}

// spoil overwrites a list and the spare room behind it.
func spoil[T any](list []T, with T) {
	list = list[:cap(list)]
	for i := range list {
		list[i] = with
	}
}

// dice gives numbers that look as if thrown, the same ones in each run.
type dice uint64

func (d *dice) below(n int) int {
	*d = *d*6364136223846793005 + 1442695040888963407
	return int(uint64(*d)>>33) % n
}

func (d *dice) bool() bool { return d.below(2) == 1 }
