package cache_test

import (
	"bytes"
	"iter"
	"slices"
	"strconv"
	"strings"
	"testing"

	"spindle/api"
	"spindle/cache"
	"spindle/disk"
)

// P5.7: Peek of a line, of what waits at the disk, of what is safe
func TestPeek(t *testing.T) {
	d, c := made(t, 2, "abcdefgh")
	play(t, c, "w3A w4B w3C w5D w3E w6F w3G")
	wantLines(t, "ahead", c, "6* 3*")
	wantQueue(t, "ahead", d, "4B 5D")
	wantPeeks(t, "dirty lines, what waits, what is safe", c, "abcGBDFh")
	play(t, c, "r0 r1")
	wantPeeks(t, "two writes of one sector could wait", c, "abcGBDFh")
	play(t, c, "w3H r0 r1 w4I r0 r1")
	wantQueue(t, "two writes of two sectors wait", d, "4B 5D 6F 3G 3H 4I")
	wantPeeks(t, "the last write of a sector counts", c, "abcHIDFh")
	play(t, c, "f")
	wantPeeks(t, "all is safe", c, "abcHIDFh")
}

// P5.7: Peek, Dirty, Safe, Lines and Stats change nothing, count nothing, and can't fail
func TestTellingChangesNothing(t *testing.T) {
	d, c := busy(t)
	before := lookAt(c, d)
	want(t, "faults of all kinds are armed", len(before.faults), 3)
	for range 3 {
		for n := range 8 {
			for range 2 {
				b, e := c.Peek(n)
				wantErr(t, "Peek", e, api.OK)
				if !bytes.Equal(b, before.peeks[n]) {
					t.Error("Peek tells something else:", n)
				}
			}
			c.Dirty(n)
			c.Safe(n)
		}
		c.Stats()
		for range c.Lines() {
		}
		wantLook(t, "told", c, d, before)
	}
	wantPeeks(t, "busy", c, "aCcDEBgF")
}

// P5.7: Peek of bytes that are not all alike, of the first and the last sector
func TestPeekOfEachSector(t *testing.T) {
	var image []byte
	for n := range 8 {
		image = append(image, stamp(n)...)
	}
	d, e := disk.Load(image)
	wantErr(t, "Load", e, api.OK)
	c := over(t, d, 3, api.Span{First: 0, Count: 2})
	for n := range 8 {
		wantPeekBytes(t, c, n, stamp(n))
		wantErr(t, "Write", c.Write(n, stamp(100+n)), api.OK)
		wantPeekBytes(t, c, n, stamp(100+n))
	}
	for n := range 8 {
		wantPeekBytes(t, c, n, stamp(100+n))
	}
}

func wantPeekBytes(t *testing.T, c *cache.Cache, n int, want []byte) {
	t.Helper()
	if b, e := c.Peek(n); e != api.OK || !bytes.Equal(b, want) {
		t.Errorf("Peek(%d): %s, error %d, want %s", n, letter(b), e, letter(want))
	}
}

// P5.7: Dirty tells of dirty lines alone
func TestDirty(t *testing.T) {
	_, c := made(t, 4, "abcdefgh")
	told := func() string {
		s := ""
		for n := range 8 {
			if c.Dirty(n) {
				s += strconv.Itoa(n)
			}
		}
		return s
	}
	for _, step := range []struct{ calls, dirty string }{
		{"", ""}, {"r3 r0", ""}, {"w3A", "3"}, {"w0B", "03"}, {"w7C", "037"}, {"b", "07"}, {"w3D", "037"}, {"t7", "03"}, {"t", "03"}, {"f", ""},
		{"w5A w6B", "56"}, {"r2 r4", "56"}, {"r1", "6"}, {"w1A r7 r0", "1"}, {"t1", ""},
	} {
		play(t, c, step.calls)
		want(t, "Dirty behind "+step.calls, told(), step.dirty)
	}
}

// P5.7: Safe tells of a sector without a dirty line of which no write waits
func TestSafe(t *testing.T) {
	d, c := made(t, 2, "abcdefgh")
	for _, step := range []struct{ calls, safe string }{
		{"", "++++++++"},
		{"r3 r0", "++++++++"},
		{"w3A", "+++-++++"},
		{"w0B", "-++-++++"},
		{"b", "-++-++++"},
		{"r5", "-++-++++"}, // 3 gave way, and waits
		{"r3", "-++-++++"}, // a clean line of what waits
		{"t7", "-+++++++"},
		{"w3C w4D", "-++--+++"},
		{"f", "++++++++"},
		{"w1A w0B", "--++++++"},
		{"r4", "++++++++"}, // all lines were dirty notes
	} {
		play(t, c, step.calls)
		wantSafeSectors(t, "behind "+step.calls, c, step.safe)
	}
	arm(t, d, writing, 4, 0, 1, true)
	play(t, c, "w4E")
	fails(t, c, "b", api.ErrIO)
	wantSafeSectors(t, "landed, though it failed", c, "++++-+++")
	wantErr(t, "the disk's own barrier", d.Barrier(), api.OK)
	wantSafeSectors(t, "safe, but the line is dirty still", c, "++++-+++")
}

// P5.7: Safe looks at the disk, whoever writes there
func TestSafeOfWhatOthersWrite(t *testing.T) {
	d, c := made(t, 2, "abcdefgh")
	wantErr(t, "the disk's own write", d.Write(6, full('A')), api.OK)
	wantSafeSectors(t, "a write waits", c, "++++++-+")
	wantPeeks(t, "a write waits", c, "abcdefAh")
	wantErr(t, "the disk's own barrier", d.Barrier(), api.OK)
	wantSafeSectors(t, "none waits", c, "++++++++")
	wantPeeks(t, "none waits", c, "abcdefAh")
}

// P5.7: what is counted, and what is not
func TestStats(t *testing.T) {
	_, c := made(t, 2, "abcdefgh")
	for _, step := range []struct {
		calls                          string
		hits, misses, evicted, written uint64
	}{
		{"r3", 0, 1, 0, 0}, {"r3", 1, 1, 0, 0}, {"w3A", 2, 1, 0, 0}, {"w4B", 2, 2, 0, 0}, {"w4C", 3, 2, 0, 0},
		{"b", 3, 2, 0, 1}, {"b", 3, 2, 0, 2}, {"b", 3, 2, 0, 2}, {"r5", 3, 3, 1, 2}, {"w6D", 3, 4, 2, 2}, {"r7", 3, 5, 3, 2}, {"r2", 3, 6, 4, 3},
		{"w2E t2", 4, 6, 4, 4}, {"t", 4, 6, 4, 4}, {"w0F w1G f", 4, 8, 6, 6}, {"f", 4, 8, 6, 6}, {"w0H w1I", 6, 8, 6, 6}, {"w3J", 6, 9, 7, 8},
	} {
		play(t, c, step.calls)
		wantCounts(t, "behind "+step.calls, c, step.hits, step.misses, step.evicted, step.written)
	}
}

// ranged goes through lines, does something at each, and tells them.
func ranged(lines iter.Seq[api.Line], do func(i int)) string {
	var words []string
	i := 0
	for l := range lines {
		do(i)
		i++
		word := strconv.Itoa(l.Sector)
		if l.Dirty {
			word += "*"
		}
		words = append(words, word)
	}
	return strings.Join(words, " ")
}

func nothing(int) {}

// P5.7, R6: a ranging tells the lines as they were when it began, whatever is done meanwhile
func TestLinesWhileTheCacheIsUsed(t *testing.T) {
	for _, c := range []struct{ calls, behind string }{
		{"r3", "4 0n* 5* 3*"},
		{"w4B", "3* 0n* 5* 4*"},
		{"f", "3 4 0n 5"},
		{"b", "3 4 0n* 5*"},
		{"t5", "3* 4 0n* 5"},
		{"r6 r7", "0n* 5* 6 7"},
		{"w1B w2C w6A w7C", "0n* 1n* 6* 7*"},
	} {
		for at := range 4 {
			_, k := made(t, 4, "abcdefgh")
			play(t, k, "w3A r4 w0B w5C")
			told := ranged(k.Lines(), func(i int) {
				if i == at {
					play(t, k, c.calls)
				}
			})
			want(t, "lines, while "+c.calls, told, "3* 4 0* 5*")
			wantLines(t, "behind "+c.calls, k, c.behind)
		}
	}
}

// P5.7, R6: what Lines answered may be ranged over again, each time anew
func TestLinesAgain(t *testing.T) {
	_, c := made(t, 3, "abcdefgh")
	lines := c.Lines()
	want(t, "no lines", ranged(lines, nothing), "")
	play(t, c, "w3A")
	want(t, "a line", ranged(lines, nothing), "3*")
	want(t, "a line, again", ranged(lines, nothing), "3*")
	play(t, c, "r4 b w0A w5B")
	want(t, "other lines", ranged(lines, nothing), "4 0* 5*")
	play(t, c, "f")
	want(t, "clean lines", ranged(lines, nothing), "4 0 5")
}

// P5.7, R6: a ranging left early, and rangings within one another
func TestLinesLeftEarlyAndNested(t *testing.T) {
	_, c := made(t, 3, "abcdefgh")
	play(t, c, "w3A r4 r5")
	lines := c.Lines()
	for stop := range 3 {
		n := 0
		for l := range lines {
			want(t, "a line", l.Sector, 3+n)
			if n == stop {
				break
			}
			n++
		}
		want(t, "left early", n, stop)
	}
	var pairs []string
	for a := range lines {
		for b := range lines {
			pairs = append(pairs, strconv.Itoa(10*a.Sector+b.Sector))
			if b.Sector == 5 {
				play(t, c, "r5 w3B r4 r5") // the same order at last
			}
		}
	}
	want(t, "pairs", strings.Join(pairs, " "), "33 34 35 43 44 45 53 54 55")
	want(t, "gone through by others too", slices.Collect(lines)[0], api.Line{Sector: 3, Dirty: true})
}

// R6: rangings that go on side by side, each begun at another moment
func TestLinesSideBySide(t *testing.T) {
	_, c := made(t, 3, "abcdefgh")
	play(t, c, "w3A r4 w1B")
	lines := c.Lines()
	next1, stop1 := iter.Pull(lines)
	defer stop1()
	step := func(next func() (api.Line, bool), line api.Line, ok bool) {
		t.Helper()
		gotLine, gotOK := next()
		want(t, "the next line", gotLine, line)
		want(t, "is there one", gotOK, ok)
	}
	step(next1, api.Line{Sector: 3, Dirty: true}, true)
	play(t, c, "f r5")
	next2, stop2 := iter.Pull(lines)
	defer stop2()
	step(next2, api.Line{Sector: 4}, true)
	step(next1, api.Line{Sector: 4}, true)
	play(t, c, "w1C r4")
	step(next2, api.Line{Sector: 1, Note: true}, true)
	step(next1, api.Line{Sector: 1, Note: true, Dirty: true}, true)
	step(next1, api.Line{}, false)
	step(next2, api.Line{Sector: 5}, true)
	step(next2, api.Line{}, false)
}

// R1, P5.6: a cache that is nil, or that no call made
func TestNoCache(t *testing.T) {
	for _, c := range []*cache.Cache{nil, {}} {
		lines := c.Lines()
		for range 2 {
			for _, n := range []int{-1, 0, 1, 1 << 62} {
				b, e := c.Read(n)
				wantErr(t, "Read", e, api.ErrNil)
				want(t, "bytes of Read", len(b), 0)
				wantErr(t, "Write", c.Write(n, full('A')), api.ErrNil)
				wantErr(t, "Write of no bytes", c.Write(n, nil), api.ErrNil)
				wantErr(t, "Through", c.Through([]int{n}), api.ErrNil)
				b, e = c.Peek(n)
				wantErr(t, "Peek", e, api.ErrNil)
				want(t, "bytes of Peek", len(b), 0)
				want(t, "Dirty", c.Dirty(n), false)
				want(t, "Safe", c.Safe(n), false)
			}
			wantErr(t, "Flush", c.Flush(), api.ErrNil)
			wantErr(t, "Through", c.Through(nil), api.ErrNil)
			wantBack(t, "no cache", c, -1, api.ErrNil)
			wantLines(t, "no cache", c, "")
			want(t, "lines answered ahead", ranged(lines, nothing), "")
			wantCounts(t, "no cache", c, 0, 0, 0, 0)
		}
	}
}
