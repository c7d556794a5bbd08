package cache_test

import (
	"bytes"
	"fmt"
	"slices"
	"strings"
	"testing"

	"spindle/api"
	"spindle/cache"
	"spindle/disk"
)

// twin is a cache and the plain one, each over a disk of its own, and what each sector has been: every call goes to both, and behind each all that can be told of them is compared, and all that a crash could leave is looked at.
type twin struct {
	t     *testing.T
	d     *disk.Disk
	c     *cache.Cache
	p     *plain
	was   [][][]byte // of each sector all values since the beginning, the last one is what it has
	floor []int      // of each sector the place in was from which on a crash may leave it
	count int        // stamps that were given out
	said  []string   // for the report of what went wrong
	bad   bool
}

const twinNotes = 2 // sectors 0 and 1 are notes

func newTwin(t *testing.T, sectors, lines int) *twin {
	t.Helper()
	w := &twin{t: t}
	var image []byte
	for range sectors {
		image = append(image, w.stamp()...)
	}
	w.d, _ = disk.Load(image)
	w.begin(lines)
	return w
}

// begin makes both caches anew over the disk as it is.
func (w *twin) begin(lines int) {
	w.c = over(w.t, w.d, lines, api.Span{First: 0, Count: twinNotes})
	w.p = &plain{d: w.d.Copy(), most: lines, note: func(n int) bool { return n < twinNotes }, noted: w.noted}
	w.was, w.floor = nil, make([]int, w.d.Sectors())
	for b := range slices.Chunk(w.d.Image(), api.SectorSize) {
		w.was = append(w.was, [][]byte{b})
	}
	w.said = append(w.said, fmt.Sprint("lines ", lines))
	w.check()
}

func (w *twin) stamp() []byte {
	w.count++
	return stamp(w.count)
}

func (w *twin) last(sector int) []byte { return w.was[sector][len(w.was[sector])-1] }

// told is what the promises call safe: from now on no crash leaves these sectors as they were earlier.
func (w *twin) told(sectors ...int) {
	for _, n := range sectors {
		w.floor[n] = len(w.was[n]) - 1
	}
}

// noted: a note comes to the disk, so all data are safe (P5.9).
func (w *twin) noted() {
	for n := twinNotes; n < len(w.was); n++ {
		w.told(n)
	}
}

func (w *twin) fail(parts ...any) {
	w.t.Helper()
	w.bad = true
	w.t.Errorf("%s\nbehind: %s", fmt.Sprintln(parts...), strings.Join(w.said, "; "))
}

func (w *twin) say(parts ...any) {
	w.said = append(w.said, strings.TrimSpace(fmt.Sprintln(parts...)))
}

func (w *twin) compare(what string, got, want any) {
	w.t.Helper()
	if got != want {
		w.fail(what, got, "want", want)
	}
}

func (w *twin) arm(kind, sector, after, times int, land bool) {
	f := api.Fault{Kind: kind, Sector: sector, After: after, Times: times, Land: land}
	w.say("Fault", f)
	w.compare("Fault", w.d.Fault(f), w.p.d.Fault(f))
	w.check()
}

func (w *twin) read(sector int) {
	w.say("Read", sector)
	b, e := w.c.Read(sector)
	_, expect := w.p.read(sector)
	w.compare("Read: error", e, expect)
	if e == api.OK && !bytes.Equal(b, w.last(sector)) || e != api.OK && len(b) != 0 {
		w.fail("Read tells other bytes")
	}
	w.check()
}

func (w *twin) write(sector int) {
	w.say("Write", sector)
	b := w.stamp()
	e := w.c.Write(sector, slices.Clone(b))
	w.compare("Write: error", e, w.p.write(sector, b))
	if e == api.OK {
		w.was[sector] = append(w.was[sector], b)
	}
	w.check()
}

func (w *twin) flush() api.Errno {
	w.say("Flush")
	e := w.c.Flush()
	w.compare("Flush: error", e, w.p.flush())
	if e == api.OK {
		w.told(0, 1)
		w.noted()
		for n := range w.was {
			w.compare("Safe behind Flush", w.c.Safe(n), true)
		}
	}
	w.check()
	return e
}

func (w *twin) through(sectors ...int) {
	w.say("Through", sectors)
	e := w.c.Through(slices.Clone(sectors))
	w.compare("Through: error", e, w.p.through(sectors))
	if e == api.OK {
		w.told(sectors...)
		for _, n := range sectors {
			w.compare("Safe behind Through", w.c.Safe(n), true)
		}
	}
	w.check()
}

func (w *twin) back() {
	w.say("Back")
	n, e := w.c.Back()
	expectN, expectE := w.p.back()
	w.compare("Back: sector", n, expectN)
	w.compare("Back: error", e, expectE)
	w.check()
}

// crash lets the machine fall; both caches begin anew.
func (w *twin) crash(keep []bool, lines int) {
	w.say("Crash", keep)
	var safe [][]byte
	for n := range w.was {
		if w.c.Safe(n) {
			b, _ := w.c.Peek(n)
			safe = append(safe, b)
		} else {
			safe = append(safe, nil)
		}
	}
	w.d.Crash(keep)
	for n, b := range slices.Collect(slices.Chunk(w.d.Image(), api.SectorSize)) {
		if safe[n] != nil && !bytes.Equal(b, safe[n]) {
			w.fail("a crash has changed what was safe: sector", n)
		}
		if !w.could(n, b) {
			w.fail("a crash has left what may not be: sector", n)
		}
	}
	w.begin(lines)
}

// could tells whether a crash may leave a sector so (P5.9).
func (w *twin) could(sector int, b []byte) bool {
	return slices.ContainsFunc(w.was[sector][w.floor[sector]:], func(v []byte) bool { return bytes.Equal(v, b) })
}

// check compares the two, and looks at all that a crash at this moment could leave: of each sector the safe bytes, or those of a write that waits.
func (w *twin) check() {
	w.t.Helper()
	if w.c.Stats() != w.p.stats || !slices.Equal(slices.Collect(w.c.Lines()), w.p.told()) {
		w.fail("lines and counts:", slices.Collect(w.c.Lines()), w.c.Stats(), "want", w.p.told(), w.p.stats)
	}
	image, queue := w.d.Image(), w.d.Queue()
	if w.d.Stats() != w.p.d.Stats() || !slices.Equal(w.d.Faults(), w.p.d.Faults()) || !bytes.Equal(image, w.p.d.Image()) || !slices.EqualFunc(queue, w.p.d.Queue(), samePut) {
		w.fail("the disks:", w.d.Stats(), w.d.Faults(), len(queue), "want", w.p.d.Stats(), w.p.d.Faults(), len(w.p.d.Queue()))
	}
	left := slices.Collect(slices.Chunk(image, api.SectorSize))
	waits := make([]bool, len(left))
	for _, put := range queue {
		waits[put.Sector] = true
		if !w.could(put.Sector, put.Data) {
			w.fail("a crash can leave by a write that waits what may not be: sector", put.Sector)
		}
	}
	for n := range w.was {
		w.checkSector(n, left[n], waits[n])
	}
}

// checkSector looks at one sector, of which these bytes are safe.
func (w *twin) checkSector(n int, safe []byte, waits bool) {
	w.t.Helper()
	peeked, e := w.c.Peek(n)
	if e != api.OK || !bytes.Equal(peeked, w.last(n)) {
		w.fail("Peek tells other bytes: sector", n, "error", e)
	}
	i := w.p.at(n)
	dirty := i >= 0 && w.p.lines[i].dirty
	w.compare("Dirty", w.c.Dirty(n), dirty)
	w.compare("Safe", w.c.Safe(n), !dirty && !waits)
	if w.c.Safe(n) && !bytes.Equal(safe, peeked) {
		w.fail("what is safe are other bytes: sector", n)
	}
	if !w.could(n, safe) {
		w.fail("a crash can leave what may not be: sector", n)
	}
}
