package cache_test

import (
	"testing"

	"spindle/api"
	"spindle/cache"
	"spindle/disk"
)

// asked makes room in one of the two ways: a read or a write of sector 7, which has no line.
var asked = []string{"r7", "w7Z"}

func behind(word string) string {
	if word[0] == 'w' {
		return "7*"
	}
	return "7"
}

// Types (to make room): which line gives way, by the order of use and by what it is
func TestWhichGivesWay(t *testing.T) {
	for _, c := range []struct{ what, calls, lines, left, queue string }{
		{"fewer lines than may be", "w3A r4", "3* 4", "3* 4", ""},
		{"the one used least lately, clean", "r3 w4A r5", "3 4* 5", "4* 5", ""},
		{"the one used least lately, dirty", "w3A w4B r5", "3* 4* 5", "4* 5", "3A"},
		{"a read is a use", "w3A w4B r5 r3", "4* 5 3*", "5 3*", "4B"},
		{"a write is a use", "w3A w4B r5 w3C w4D", "5 3* 4*", "3* 4*", ""},
		{"a dirty line is not passed over for a clean one", "w3A r4 r5", "3* 4 5", "4 5", "3A"},
		{"a clean note gives way as data do", "r0 w3A w4B", "0n 3* 4*", "3* 4*", ""},
		{"a note that was flushed too", "w0A f w3B w4C", "0n 3* 4*", "3* 4*", ""},
		{"a dirty note is passed over", "w0A w3B w4C", "0n* 3* 4*", "0n* 4*", "3B"},
		{"a dirty note is passed over, for a clean line", "w0A r3 w4C", "0n* 3 4*", "0n* 4*", ""},
		{"two dirty notes are passed over", "w0A w1B w4C", "0n* 1n* 4*", "0n* 1n*", "4C"},
		{"two dirty notes are passed over, for a clean note", "w1B w3A w0A f w1C w3D", "0n 1n* 3*", "1n* 3*", ""},
		{"dirty notes behind it are not looked at", "w3A w0B w1C", "3* 0n* 1n*", "0n* 1n*", "3A"},
		{"a dirty note amid others", "w3A w0B w4C", "3* 0n* 4*", "0n* 4*", "3A"},
	} {
		for _, word := range asked {
			d, k := made(t, 3, "abcdefgh")
			play(t, k, c.calls)
			wantLines(t, c.what, k, c.lines)
			before, asked := k.Stats(), d.Stats()
			play(t, k, word)
			wantLines(t, c.what+": behind it", k, c.left+" "+behind(word))
			wantQueue(t, c.what, d, c.queue)
			want(t, c.what+": barriers", d.Stats().Barriers, asked.Barriers)
			written := uint64(len(c.queue) / 2)
			before.Misses++
			before.Written += written
			if c.left != c.lines {
				before.Evicted++
			}
			want(t, c.what+": counts", k.Stats(), before)
		}
	}
}

// Types (to make room): a line that can't be written back stays, dirty and in its place, and no other is tried
func TestRoomThatCannotBeMade(t *testing.T) {
	for _, land := range []bool{false, true} {
		for _, c := range []struct{ calls, lines, queue string }{
			{"w3A r4 r5", "3* 4 5", "3A"},
			{"w0A w3A r4", "0n* 3* 4", "3A"},
			{"w3A w0A w1A", "3* 0n* 1n*", "3A"},
			{"w1B w0A w3A", "1n* 0n* 3*", "3A"},
		} {
			for _, word := range asked {
				d, k := made(t, 3, "abcdefgh")
				play(t, k, c.calls)
				arm(t, d, writing, 3, 0, 1, land)
				before := k.Stats()
				fails(t, k, word, api.ErrIO)
				before.Misses++
				want(t, "counts", k.Stats(), before)
				wantLines(t, "no room", k, c.lines)
				want(t, "Safe", k.Safe(3), false)
				if land {
					wantQueue(t, "it has landed", d, c.queue)
				} else {
					wantQueue(t, "it has not landed", d, "")
				}
				want(t, "barriers", d.Stats().Barriers, 0)
				play(t, k, word)
				want(t, "lines give way", k.Stats().Evicted, 1)
			}
		}
	}
}

// Types (to make room): all lines are dirty notes
func TestAllLinesAreDirtyNotes(t *testing.T) {
	for _, word := range asked {
		d, c := made(t, 2, "abcdefgh")
		play(t, c, "w1B w0A "+word)
		wantLines(t, "the one used least lately gave way", c, "0n "+behind(word))
		wantSafe(t, "both are safe", d, "ABcdefgh")
		wantQueue(t, "both are safe", d, "")
		wantCounts(t, "both were written", c, 0, 3, 1, 2)
		want(t, "barriers", d.Stats().Barriers, 2)
		want(t, "writes", d.Stats().Writes, 2)
	}
}

// Types (to make room): data that gave way ahead of the notes are made safe ahead of them
func TestAllLinesAreDirtyNotesAndDataWait(t *testing.T) {
	for failing, expect := range []struct{ queue, safe string }{
		{"3A", "abcdefgh"}, {"0C 1B", "abcAefgh"}, {"", "CBcAefgh"},
	} {
		d, c := made(t, 2, "abcdefgh")
		play(t, c, "w3A w1B w0C")
		wantLines(t, "data have given way", c, "1n* 0n*")
		if failing < 2 {
			arm(t, d, barring, -1, failing, 1, false)
			fails(t, c, "r7", api.ErrIO)
		} else {
			play(t, c, "r7")
		}
		wantQueue(t, "all notes", d, expect.queue)
		wantSafe(t, "all notes", d, expect.safe)
	}
}

// Types (to make room): the flush that all dirty notes ask for fails; what it has done stays done
func TestAllLinesAreDirtyNotesAndFlushFails(t *testing.T) {
	for _, c := range []struct {
		what                string
		kind, sector, after int
		lines, queue, safe  string
		written             uint64
		again               string
	}{
		{"the first barrier", barring, -1, 0, "1n* 0n*", "", "abcdefgh", 0, "0n 7"},
		{"the first note", writing, 0, 0, "1n* 0n*", "", "abcdefgh", 0, "0n 7"},
		{"the second note", writing, 1, 0, "1n* 0n", "0C", "abcdefgh", 1, "1n* 7"},
		{"the second barrier", barring, -1, 1, "1n 0n", "0C 1B", "abcdefgh", 2, "0n 7"},
	} {
		d, k := made(t, 2, "abcdefgh")
		play(t, k, "w1B w0C")
		arm(t, d, c.kind, c.sector, c.after, 1, false)
		fails(t, k, "r7", api.ErrIO)
		wantLines(t, c.what, k, c.lines)
		wantQueue(t, c.what, d, c.queue)
		wantSafe(t, c.what, d, c.safe)
		wantCounts(t, c.what, k, 0, 3, 0, c.written)
		wantPeeks(t, c.what, k, "CBcdefgh")
		play(t, k, "r7")
		wantLines(t, c.what+", again", k, c.again)
		wantPeeks(t, c.what+", again", k, "CBcdefgh")
		play(t, k, "f")
		wantSafe(t, c.what+", at last", d, "CBcdefgh")
	}
}

// Types (to make room): in a cache of one line each other sector makes the line give way
func TestOneLine(t *testing.T) {
	d, c := made(t, 1, "abcdefgh")
	play(t, c, "r3 r3 w3A w3B r3")
	wantLines(t, "one line", c, "3*")
	wantCounts(t, "one line", c, 4, 1, 0, 0)
	play(t, c, "w4C")
	wantLines(t, "one line", c, "4*")
	wantQueue(t, "one line", d, "3B")
	play(t, c, "r0 r4 w0D")
	wantLines(t, "a note", c, "0n*")
	wantQueue(t, "a note", d, "3B 4C")
	play(t, c, "w1E")
	wantLines(t, "another note", c, "1n*")
	wantSafe(t, "another note", d, "DbcBCfgh")
	play(t, c, "w5F")
	wantLines(t, "data", c, "5*")
	wantSafe(t, "data", d, "DEcBCfgh")
	wantCounts(t, "data", c, 4, 7, 6, 4)
	wantPeeks(t, "at last", c, "DEcBCFgh")
}

// Types (to make room), R7: MaxLines lines
func TestMostLines(t *testing.T) {
	d, e := disk.New(api.MaxLines + 8)
	wantErr(t, "disk.New", e, api.OK)
	c, e := cache.New(d, api.MaxLines, []api.Span{{First: 0, Count: 2}})
	wantErr(t, "New", e, api.OK)
	for n := range api.MaxLines {
		wantErr(t, "Write", c.Write(n, stamp(n)), api.OK)
	}
	wantAsked(t, "nothing gave way", d, 0, 0, 0, 0)
	wantErr(t, "Write", c.Write(api.MaxLines, stamp(1)), api.OK)
	wantCounts(t, "one more", c, 0, api.MaxLines+1, 1, 1)
	if q := d.Queue(); len(q) != 1 || q[0].Sector != 2 {
		t.Error("the first data line gives way: a queue of", len(q))
	}
	play(t, c, "f")
	i := 0
	for l := range c.Lines() {
		expect := api.Line{Sector: i, Note: true}
		if i >= 2 {
			expect = api.Line{Sector: i + 1}
		}
		want(t, "a line", l, expect)
		i++
	}
	want(t, "lines", i, api.MaxLines)
	wantAsked(t, "all is written once", d, 0, api.MaxLines+1, 2, 0)
}

// Types (to make room), R7: MaxLines lines, all of them dirty notes
func TestMostNotes(t *testing.T) {
	d, e := disk.New(api.MaxLines + 8)
	wantErr(t, "disk.New", e, api.OK)
	c, e := cache.New(d, api.MaxLines, []api.Span{{First: 4, Count: api.MaxLines}})
	wantErr(t, "New", e, api.OK)
	for n := range api.MaxLines {
		wantErr(t, "Write", c.Write(4+(n*5+3)%api.MaxLines, stamp(n)), api.OK)
	}
	wantAsked(t, "all lines are dirty notes", d, 0, 0, 0, 0)
	wantRead(t, c, 0, full('.'))
	wantAsked(t, "a Flush", d, 1, api.MaxLines, 2, 0)
	wantCounts(t, "a Flush", c, 0, api.MaxLines+1, 1, api.MaxLines)
	want(t, "the one used least lately gave way", hasLine(c, 4+3), false)
	want(t, "no other", hasLine(c, 4+8) && hasLine(c, 4) && hasLine(c, 0), true)
}

func hasLine(c *cache.Cache, sector int) bool {
	for l := range c.Lines() {
		if l.Sector == sector {
			return true
		}
	}
	return false
}
