package cache_test

import (
	"bytes"
	"slices"
	"strconv"
	"strings"
	"testing"

	"spindle/api"
	"spindle/cache"
	"spindle/disk"
)

const (
	reading = api.FaultRead
	writing = api.FaultWrite
	barring = api.FaultBarrier
)

// full gives a sector of one letter; of a point a sector of bytes 0.
func full(letter rune) []byte {
	if letter == '.' {
		letter = 0
	}
	return bytes.Repeat([]byte{byte(letter)}, api.SectorSize)
}

// letter reads what full has given.
func letter(b []byte) string {
	switch {
	case len(b) != api.SectorSize:
		return "(" + strconv.Itoa(len(b)) + " bytes)"
	case bytes.Equal(b, full('.')):
		return "."
	case bytes.Equal(b, full(rune(b[0]))):
		return string(rune(b[0]))
	}
	return "?"
}

// stamp gives a sector's bytes that no other number gives, not in any two of them that stand side by side.
func stamp(n int) []byte {
	b := make([]byte, api.SectorSize)
	for i := range b {
		b[i] = byte(n>>(i%2*8)) + byte(i)
	}
	return b
}

// holding gives a disk with one letter's sector for each letter.
func holding(t *testing.T, letters string) *disk.Disk {
	t.Helper()
	var image []byte
	for _, l := range letters {
		image = append(image, full(l)...)
	}
	d, e := disk.Load(image)
	if e != api.OK {
		t.Fatal("the disk: error", e)
	}
	return d
}

func over(t *testing.T, d *disk.Disk, lines int, notes ...api.Span) *cache.Cache {
	t.Helper()
	c, e := cache.New(d, lines, notes)
	if e != api.OK || c == nil {
		t.Fatalf("New(%d, %v): %v, error %d", lines, notes, c != nil, e)
	}
	return c
}

// made gives a cache of so many lines over a disk with these letters, of which sectors 0 and 1 are notes.
func made(t *testing.T, lines int, letters string) (*disk.Disk, *cache.Cache) {
	t.Helper()
	d := holding(t, letters)
	return d, over(t, d, lines, api.Span{First: 0, Count: 2})
}

// play makes calls told by words: r3 reads sector 3; w3A writes the letter A there; f flushes; b is Back; t is Through, t2,3 of these sectors; each goes well.
func play(t *testing.T, c *cache.Cache, calls string) {
	t.Helper()
	for _, word := range strings.Fields(calls) {
		wantErr(t, word, call(t, c, word), api.OK)
	}
}

func call(t *testing.T, c *cache.Cache, word string) api.Errno {
	t.Helper()
	rest := word[1:]
	switch word[0] {
	case 'r':
		b, e := c.Read(number(t, rest))
		if (len(b) == api.SectorSize) != (e == api.OK) || e != api.OK && len(b) != 0 {
			t.Errorf("%s: %d bytes beside error %d", word, len(b), e)
		}
		return e
	case 'w':
		return c.Write(number(t, rest[:len(rest)-1]), full(rune(rest[len(rest)-1])))
	case 'f':
		return c.Flush()
	case 'b':
		_, e := c.Back()
		return e
	case 't':
		var sectors []int
		for _, n := range strings.FieldsFunc(rest, func(r rune) bool { return r == ',' }) {
			sectors = append(sectors, number(t, n))
		}
		return c.Through(sectors)
	}
	t.Fatal("no such call:", word)
	return 0
}

func number(t *testing.T, s string) int {
	t.Helper()
	n, err := strconv.Atoi(s)
	if err != nil {
		t.Fatal(err)
	}
	return n
}

// fails makes a call told by a word, which is to answer this error.
func fails(t *testing.T, c *cache.Cache, word string, want api.Errno) {
	t.Helper()
	wantErr(t, word, call(t, c, word), want)
}

func wantErr(t *testing.T, what string, got, want api.Errno) {
	t.Helper()
	if got != want {
		t.Errorf("%s: error %d, want %d", what, got, want)
	}
}

func want[V comparable](t *testing.T, what string, got, want V) {
	t.Helper()
	if got != want {
		t.Errorf("%s: %v, want %v", what, got, want)
	}
}

// wantLines looks at the lines in their order: a sector a word, with n if it is a note's, with a star if it is dirty. Dirty must tell the same.
func wantLines(t *testing.T, what string, c *cache.Cache, lines string) {
	t.Helper()
	var words []string
	for l := range c.Lines() {
		word := strconv.Itoa(l.Sector)
		if l.Note {
			word += "n"
		}
		if l.Dirty {
			word += "*"
		}
		words = append(words, word)
		want(t, what+": Dirty of line "+word, c.Dirty(l.Sector), l.Dirty)
	}
	want(t, what+": lines", strings.Join(words, " "), lines)
}

// wantQueue looks at the writes that wait at the disk: a word is a sector and its letter.
func wantQueue(t *testing.T, what string, d *disk.Disk, puts string) {
	t.Helper()
	var words []string
	for _, p := range d.Queue() {
		words = append(words, strconv.Itoa(p.Sector)+letter(p.Data))
	}
	want(t, what+": queue", strings.Join(words, " "), puts)
}

// wantSafe looks at the disk's safe bytes, a letter a sector.
func wantSafe(t *testing.T, what string, d *disk.Disk, letters string) {
	t.Helper()
	want(t, what+": safe bytes", safeLetters(d), letters)
}

func safeLetters(d *disk.Disk) string {
	told := ""
	for b := range slices.Chunk(d.Image(), api.SectorSize) {
		told += letter(b)
	}
	return told
}

// wantPeeks looks at what each sector has by Peek, a letter a sector.
func wantPeeks(t *testing.T, what string, c *cache.Cache, letters string) {
	t.Helper()
	told := ""
	for n := range len(letters) {
		b, e := c.Peek(n)
		wantErr(t, what+": Peek", e, api.OK)
		told += letter(b)
	}
	want(t, what+": bytes", told, letters)
}

// wantSafeSectors looks at what Safe tells of each sector: + or -.
func wantSafeSectors(t *testing.T, what string, c *cache.Cache, signs string) {
	t.Helper()
	told := ""
	for n := range len(signs) {
		if c.Safe(n) {
			told += "+"
		} else {
			told += "-"
		}
	}
	want(t, what+": Safe", told, signs)
}

// wantCounts looks at the cache's counts.
func wantCounts(t *testing.T, what string, c *cache.Cache, hits, misses, evicted, written uint64) {
	t.Helper()
	want(t, what+": counts", c.Stats(), api.CacheStats{Hits: hits, Misses: misses, Evicted: evicted, Written: written})
}

// wantAsked looks at how many operations of the disk went well and how many failed.
func wantAsked(t *testing.T, what string, d *disk.Disk, reads, writes, barriers, failed uint64) {
	t.Helper()
	want(t, what+": the disk's counts", d.Stats(), api.DiskStats{Reads: reads, Writes: writes, Barriers: barriers, Failed: failed})
}

func wantRead(t *testing.T, c *cache.Cache, sector int, want []byte) {
	t.Helper()
	if b, e := c.Read(sector); e != api.OK || !bytes.Equal(b, want) {
		t.Errorf("Read(%d): %s, error %d, want %s", sector, letter(b), e, letter(want))
	}
}

func arm(t *testing.T, d *disk.Disk, kind, sector, after, times int, land bool) {
	t.Helper()
	wantErr(t, "Fault", d.Fault(api.Fault{Kind: kind, Sector: sector, After: after, Times: times, Land: land}), api.OK)
}

// look is all that can be told of a cache and its disk.
type look struct {
	lines  []api.Line
	stats  api.CacheStats
	peeks  [][]byte
	dirty  []bool
	safe   []bool
	image  []byte
	queue  []api.Put
	faults []api.Fault
	disk   api.DiskStats
}

func lookAt(c *cache.Cache, d *disk.Disk) look {
	l := look{lines: slices.Collect(c.Lines()), stats: c.Stats(), image: d.Image(), queue: d.Queue(), faults: d.Faults(), disk: d.Stats()}
	for n := range d.Sectors() {
		b, _ := c.Peek(n)
		l.peeks = append(l.peeks, bytes.Clone(b)) // it may not be trusted to be memory of its own
		l.dirty = append(l.dirty, c.Dirty(n))
		l.safe = append(l.safe, c.Safe(n))
	}
	return l
}

func samePut(a, b api.Put) bool { return a.Sector == b.Sector && bytes.Equal(a.Data, b.Data) }

func (l look) same(m look) bool {
	return slices.Equal(l.lines, m.lines) && l.stats == m.stats && slices.EqualFunc(l.peeks, m.peeks, bytes.Equal) &&
		slices.Equal(l.dirty, m.dirty) && slices.Equal(l.safe, m.safe) && bytes.Equal(l.image, m.image) &&
		slices.EqualFunc(l.queue, m.queue, samePut) && slices.Equal(l.faults, m.faults) && l.disk == m.disk
}

func wantLook(t *testing.T, what string, c *cache.Cache, d *disk.Disk, want look) {
	t.Helper()
	if !lookAt(c, d).same(want) {
		t.Errorf("%s: the cache or its disk is not as it was", what)
	}
}

// busy gives a cache and a disk with something of everything: clean and dirty lines of notes and of data, a full cache, a queue, faults, counts.
func busy(t *testing.T) (*disk.Disk, *cache.Cache) {
	t.Helper()
	d, c := made(t, 4, "abcdefgh")
	play(t, c, "w3A r4 w5B r0 w1C w3D r2 w4E")
	arm(t, d, reading, 6, 0, 1, false)
	fails(t, c, "r6", api.ErrIO)
	play(t, c, "w7F")
	arm(t, d, writing, -1, 1, 2, true)
	arm(t, d, barring, -1, 0, 1, false)
	arm(t, d, reading, -1, 0, 3, false)
	wantLines(t, "busy", c, "1n* 2 4* 7*")
	wantQueue(t, "busy", d, "3A 5B 3D")
	return d, c
}

// spoil overwrites a list and the spare room behind it.
func spoil(b []byte) {
	b = b[:cap(b)]
	for i := range b {
		b[i] ^= 0xff
	}
}

// dice gives numbers that look as if thrown, the same ones in each run.
type dice uint64

func (d *dice) below(n int) int {
	*d = *d*6364136223846793005 + 1442695040888963407
	return int(uint64(*d)>>33) % n
}
