package cache_test

import (
	"math"
	"slices"
	"strings"
	"testing"

	"spindle/api"
	"spindle/cache"
	"spindle/disk"
)

type spans = []api.Span

// at gives spans, told by their first sectors and their counts.
func at(numbers ...int) spans {
	var l spans
	for pair := range slices.Chunk(numbers, 2) {
		l = append(l, api.Span{First: pair[0], Count: pair[1]})
	}
	return l
}

// wantNoCache looks that New refuses, and that nothing comes beside the error.
func wantNoCache(t *testing.T, what string, d *disk.Disk, lines int, notes spans, want api.Errno) {
	t.Helper()
	c, e := cache.New(d, lines, notes)
	wantErr(t, what, e, want)
	if c != nil {
		t.Errorf("%s: a cache beside an error", what)
	}
}

// P5.1: a cache without lines, all counts 0; nothing is asked of the disk
func TestNew(t *testing.T) {
	for _, lines := range []int{1, 2, api.MaxLines - 1, api.MaxLines} {
		d, c := made(t, lines, "abcd")
		wantLines(t, "new", c, "")
		wantCounts(t, "new", c, 0, 0, 0, 0)
		wantAsked(t, "new", d, 0, 0, 0, 0)
		wantPeeks(t, "new", c, "abcd")
		wantSafeSectors(t, "new", c, "++++")
	}
}

// P5.1, R1: a disk that is nil, or that no call made
func TestNewWithoutADisk(t *testing.T) {
	for _, d := range []*disk.Disk{nil, {}} {
		wantNoCache(t, "no disk", d, 4, nil, api.ErrArg)
		wantNoCache(t, "no disk, no such lines", d, 0, nil, api.ErrArg)
		wantNoCache(t, "no disk, no such lines and spans", d, api.MaxLines+1, at(0, 0), api.ErrArg)
		wantNoCache(t, "no disk, no such spans", d, 1, at(0, 1), api.ErrArg)
		wantNoCache(t, "no disk, too many spans", d, 1, make(spans, api.MaxSpans+1), api.ErrArg)
	}
}

// P5.1, R7: below one line, and above MaxLines
func TestNewOfNoSuchLines(t *testing.T) {
	d := holding(t, "abcd")
	for _, lines := range []int{0, -1, api.MaxLines + 1, math.MinInt, math.MaxInt} {
		wantNoCache(t, "lines", d, lines, nil, api.ErrLines)
		wantNoCache(t, "lines, ahead of the spans", d, lines, at(-1, 0), api.ErrLines)
		wantNoCache(t, "lines, ahead of the spans' number", d, lines, make(spans, api.MaxSpans+1), api.ErrLines)
	}
}

// P5.1: spans that may be, in any order; their sectors are the note sectors, and no others
func TestSpansThatMayBe(t *testing.T) {
	for _, c := range []struct {
		notes spans
		noted string
	}{
		{nil, "........"},
		{spans{}, "........"},
		{at(0, 1), "n......."},
		{at(7, 1), ".......n"},
		{at(3, 2), "...nn..."},
		{at(0, 8), "nnnnnnnn"},
		{at(0, 7), "nnnnnnn."},
		{at(1, 7), ".nnnnnnn"},
		{at(0, 2, 2, 2), "nnnn...."},
		{at(2, 2, 0, 2), "nnnn...."},
		{at(5, 1, 0, 1, 2, 2), "n.nn.n.."},
		{at(4, 4, 0, 4), "nnnnnnnn"},
		{at(6, 2, 3, 1, 5, 1, 1, 1, 0, 1), "nn.n.nnn"},
	} {
		k := over(t, holding(t, "abcdefgh"), 8, c.notes...)
		for n := range 8 {
			wantErr(t, "Write", k.Write(n, full('A')), api.OK)
		}
		told := ""
		for l := range k.Lines() {
			if l.Note {
				told += "n"
			} else {
				told += "."
			}
		}
		want(t, "the notes", told, c.noted)
	}
}

// P5.1, R2: spans that may not be, alone and beside another one, ahead of it and behind it
func TestSpansThatMayNotBe(t *testing.T) {
	const least, most = math.MinInt, math.MaxInt
	d := holding(t, "abcdefgh")
	for _, s := range slices.Concat(
		at(-1, 1, -1, 3, -8, 8, least, 1, least, most),
		at(0, 0, 3, 0, 0, -1, 4, -4, 7, least, 8, 0, -1, 0, -1, -1, least, least),
		at(8, 1, 7, 2, 0, 9, 9, 1, 8, most, 1, most, 7, most, most, 1, most, most, 0, most),
	) {
		n, m := s.First, s.Count
		wantNoCache(t, "a span", d, 2, at(n, m), api.ErrSpans)
		wantNoCache(t, "a span ahead of another", d, 2, at(n, m, 5, 1), api.ErrSpans)
		wantNoCache(t, "a span behind another", d, 2, at(5, 1, n, m), api.ErrSpans)
		wantNoCache(t, "a span amid others", d, 2, at(6, 1, n, m, 2, 1), api.ErrSpans)
	}
}

// P5.1: spans that share a sector, wherever they stand in the list
func TestSpansThatShareASector(t *testing.T) {
	d := holding(t, "abcdefgh")
	for _, notes := range []spans{
		at(3, 1, 3, 1), at(2, 2, 3, 1), at(2, 2, 3, 2), at(2, 3, 3, 1), at(0, 8, 7, 1), at(0, 8, 0, 1), at(0, 8, 0, 8), at(0, 5, 4, 4),
		at(1, 1, 5, 1, 1, 1), at(2, 3, 6, 1, 4, 1), at(4, 1, 0, 1, 2, 3), at(0, 1, 2, 3, 3, 1, 6, 1), at(0, 6, 1, 1, 4, 1), at(0, 6, 1, 1, 7, 1),
	} {
		wantNoCache(t, "two spans share a sector", d, 2, notes, api.ErrSpans)
		slices.Reverse(notes)
		wantNoCache(t, "two spans share a sector, told the other way", d, 2, notes, api.ErrSpans)
	}
}

// P5.1, R7: MaxSpans spans, and one more
func TestMostSpans(t *testing.T) {
	d, e := disk.New(4 * api.MaxSpans)
	wantErr(t, "disk.New", e, api.OK)
	var notes spans
	for i := range api.MaxSpans {
		notes = append(notes, api.Span{First: 2 * ((i*37 + 5) % api.MaxSpans), Count: 1})
	}
	c := over(t, d, 4*api.MaxSpans, notes...)
	for n := range 4 * api.MaxSpans {
		wantErr(t, "Write", c.Write(n, full('A')), api.OK)
	}
	for l := range c.Lines() {
		want(t, "a note", l.Note, l.Sector < 2*api.MaxSpans && l.Sector%2 == 0)
	}
	wantNoCache(t, "one more", d, 1, append(notes, api.Span{First: 3 * api.MaxSpans, Count: 1}), api.ErrSpans)
	wantNoCache(t, "many more", d, 1, make(spans, 100_000), api.ErrSpans)
}

// R4: the spans are neither changed nor kept, their spare room included
func TestSpansAreNotKept(t *testing.T) {
	room := at(5, 1, 0, 1, 3, 1, 9, 9)
	before := slices.Clone(room)
	c := over(t, holding(t, "abcdefgh"), 8, room[:3]...)
	play(t, c, "w0A w1A w3A w5A w6A")
	if !slices.Equal(room, before) {
		t.Error("what was handed in is changed:", room)
	}
	for i := range room {
		room[i] = api.Span{First: 6, Count: 2}
	}
	play(t, c, "w7A w4A w2A w0B w3B")
	wantLines(t, "behind a change of the list", c, "1* 5n* 6* 7* 4* 2* 0n* 3n*")
	play(t, c, "f w5C w6C")
	wantLines(t, "behind a change of the list", c, "1 7 4 2 0n 3n 5n* 6*")
}

// R5, R9: two caches know nothing of one another but through the disk
func TestTwoCaches(t *testing.T) {
	d, a := made(t, 2, "abcdefgh")
	b := over(t, d, 3, api.Span{First: 4, Count: 1})
	play(t, a, "w3A r4")
	wantLines(t, "the other", b, "")
	wantCounts(t, "the other", b, 0, 0, 0, 0)
	wantPeeks(t, "the other does not see what is not written back", b, "abcdefgh")
	play(t, b, "w4B r3")
	wantLines(t, "the one", a, "3* 4")
	wantLines(t, "the other", b, "4n* 3")
	play(t, a, "b")
	wantPeeks(t, "the other keeps its line", b, "abcdBfgh")
	want(t, "Safe, of what the one has written back", b.Safe(3), false)
	play(t, b, "f")
	want(t, "Safe, behind the other's barrier", a.Safe(3), true)
	wantPeeks(t, "the one keeps its line", a, "abcAefgh")
	wantSafe(t, "both", d, "abcABfgh")
	wantPeeks(t, "a third", over(t, d, 1), "abcABfgh")
	wantCounts(t, "the one", a, 0, 2, 0, 1)
	wantCounts(t, "the other", b, 0, 2, 0, 1)
}

// R9, P3.9: caches over one disk, each used by a goroutine of its own, on sectors of its own
func TestCachesSideBySide(t *testing.T) {
	d := holding(t, "................")
	done := make(chan string)
	for k := range 4 {
		c := over(t, d, 2, api.Span{First: 4 * k, Count: 1})
		go func() {
			for i := range 200 {
				for n := 4 * k; n < 4*k+4; n++ {
					c.Write(n, full(rune('A'+i%26)))
				}
				if c.Flush() != api.OK || !c.Safe(4*k) || !c.Safe(4*k+3) {
					done <- "a flush is not well"
					return
				}
			}
			done <- ""
		}()
	}
	for range 4 {
		want(t, "a goroutine", <-done, "")
	}
	wantSafe(t, "the last round's letter", d, strings.Repeat(string(rune('A'+199%26)), 16))
}
