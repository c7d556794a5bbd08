package cache_test

import (
	"strings"
	"testing"

	"spindle/api"
)

// dirtyLines are calls that leave dirty data 5, 3, 6 and dirty notes 1, 0 in the cache, and one clean line of each, in no rising order.
const dirtyLines = "r4 w5A w1B w3C w0D w6E r2"

// P5.4: data, a barrier, notes, a barrier; no line is used
func TestFlush(t *testing.T) {
	d, c := made(t, 8, "abcdefgh")
	play(t, c, dirtyLines)
	wantLines(t, "ahead", c, "4 5* 1n* 3* 0n* 6* 2")
	play(t, c, "f")
	wantLines(t, "behind", c, "4 5 1n 3 0n 6 2")
	wantSafe(t, "behind", d, "DBcCeAEh")
	wantQueue(t, "behind", d, "")
	wantSafeSectors(t, "behind", c, "++++++++")
	wantCounts(t, "behind", c, 0, 7, 0, 5)
	wantAsked(t, "behind", d, 2, 5, 2, 0)
}

// P5.4: how many barriers, by which dirty lines there are
func TestFlushOfSome(t *testing.T) {
	for _, c := range []struct {
		calls            string
		writes, barriers uint64
		safe             string
	}{
		{"", 0, 1, "abcdefgh"},
		{"r3 r0", 0, 1, "abcdefgh"},
		{"w3A", 1, 1, "abcAefgh"},
		{"w3A w2B r1", 2, 1, "abBAefgh"},
		{"w1A", 1, 2, "aAcdefgh"},
		{"w1A w0B r3", 2, 2, "BAcdefgh"},
		{"w1A w7B", 2, 2, "aAcdefgB"},
		{"w3A b", 1, 1, "abcAefgh"},
		{"w3A b w0B", 2, 2, "BbcAefgh"},
		{"w3A b w3C", 2, 1, "abcCefgh"},
	} {
		d, k := made(t, 8, "abcdefgh")
		play(t, k, c.calls)
		reads := d.Stats().Reads
		play(t, k, "f")
		wantAsked(t, c.calls+", f", d, reads, c.writes, c.barriers, 0)
		wantSafe(t, c.calls+", f", d, c.safe)
		want(t, c.calls+", f: lines written", k.Stats().Written, c.writes)
		play(t, k, "f")
		wantAsked(t, c.calls+", f, f", d, reads, c.writes, c.barriers+1, 0)
	}
}

// P5.4: the first error ends it, at each place at which the disk is asked; what was done ahead of it stays done
func TestFlushThatFails(t *testing.T) {
	for _, c := range []struct {
		what                string
		kind, sector, after int
		lines, queue, safe  string
		written             uint64
	}{
		{"the first data", writing, -1, 0, "4 5* 1n* 3* 0n* 6* 2", "", "abcdefgh", 0},
		{"data 3", writing, 3, 0, "4 5* 1n* 3* 0n* 6* 2", "", "abcdefgh", 0},
		{"data 5", writing, 5, 0, "4 5* 1n* 3 0n* 6* 2", "3C", "abcdefgh", 1},
		{"data 6", writing, 6, 0, "4 5 1n* 3 0n* 6* 2", "3C 5A", "abcdefgh", 2},
		{"the first barrier", barring, -1, 0, "4 5 1n* 3 0n* 6 2", "3C 5A 6E", "abcdefgh", 3},
		{"note 0", writing, 0, 0, "4 5 1n* 3 0n* 6 2", "", "abcCeAEh", 3},
		{"note 1", writing, 1, 0, "4 5 1n* 3 0n 6 2", "0D", "abcCeAEh", 4},
		{"the fifth write", writing, -1, 4, "4 5 1n* 3 0n 6 2", "0D", "abcCeAEh", 4},
		{"the second barrier", barring, -1, 1, "4 5 1n 3 0n 6 2", "0D 1B", "abcCeAEh", 5},
	} {
		for _, land := range []bool{false, true} {
			d, k := made(t, 8, "abcdefgh")
			play(t, k, dirtyLines)
			arm(t, d, c.kind, c.sector, c.after, 1, land)
			fails(t, k, "f", api.ErrIO)
			wantLines(t, c.what, k, c.lines)
			queue := c.queue
			if land && c.kind == writing {
				queue = strings.TrimSpace(queue + " " + landed(c.written))
			}
			wantQueue(t, c.what, d, queue)
			wantSafe(t, c.what, d, c.safe)
			wantCounts(t, c.what, k, 0, 7, 0, c.written)
			wantPeeks(t, c.what, k, "DBcCeAEh")
			play(t, k, "f")
			wantLines(t, c.what+", again", k, "4 5 1n 3 0n 6 2")
			wantSafe(t, c.what+", again", d, "DBcCeAEh")
			wantCounts(t, c.what+", again", k, 0, 7, 0, 5)
			wantSafeSectors(t, c.what+", again", k, "++++++++")
		}
	}
}

// landed tells which write of the flush of dirtyLines comes behind so many.
func landed(written uint64) string {
	return []string{"3C", "5A", "6E", "0D", "1B"}[written]
}

// P5.4: nothing is asked of the disk behind the operation that failed
func TestFlushEndsAtTheFirstError(t *testing.T) {
	for place := range 7 { // three writes, a barrier, two writes, a barrier
		d, c := made(t, 8, "abcdefgh")
		play(t, c, dirtyLines)
		kind, after := writing, place
		switch {
		case place == 3 || place == 6:
			kind, after = barring, place/6
		case place > 3:
			after--
		}
		arm(t, d, kind, -1, after, 1, false)
		fails(t, c, "f", api.ErrIO)
		writes, barriers := min(place, 3)+max(0, min(place-4, 2)), 0
		if place > 3 {
			barriers = 1
		}
		wantAsked(t, "what went well ahead of it", d, 2, uint64(writes), uint64(barriers), 1)
	}
}

// P5.4: a flush makes safe what gave way, and what Back wrote
func TestFlushOfWhatWaits(t *testing.T) {
	d, c := made(t, 2, "abcdefgh")
	play(t, c, "w3A w4B w5C b b")
	wantQueue(t, "three writes wait", d, "3A 4B 5C")
	wantLines(t, "all are clean", c, "4 5")
	play(t, c, "f")
	wantSafe(t, "Flush", d, "abcABCgh")
	wantAsked(t, "Flush", d, 0, 3, 1, 0)
}

// P5.4: notes whose last barrier failed are clean, wait, and become safe by the next barrier
func TestFlushBehindABarrierThatFailed(t *testing.T) {
	d, c := made(t, 4, "abcdefgh")
	play(t, c, "w0A w3B")
	arm(t, d, barring, -1, 1, 2, false)
	fails(t, c, "f", api.ErrIO)
	wantLines(t, "clean", c, "0n 3")
	wantSafeSectors(t, "the note waits", c, "-+++++++")
	fails(t, c, "f", api.ErrIO)
	play(t, c, "f")
	wantSafeSectors(t, "the note is safe", c, "++++++++")
	wantSafe(t, "the note is safe", d, "AbcBefgh")
	wantAsked(t, "the note is written once", d, 0, 2, 2, 2)
}

// P5.4: many lines go by rising sector, the data first
func TestFlushOfManyLines(t *testing.T) {
	for seed := range 20 {
		for _, failing := range []int{0, 1} {
			throw := dice(seed)
			d := holding(t, strings.Repeat(".", 40))
			c := over(t, d, 40, api.Span{First: 30, Count: 4}, api.Span{First: 10, Count: 6})
			isNote := func(n int) bool { return n >= 30 && n < 34 || n >= 10 && n < 16 }
			for range 60 {
				wantErr(t, "Write", c.Write(throw.below(40), full('A')), api.OK)
			}
			var expect []int
			for n := range 40 {
				if c.Dirty(n) && isNote(n) == (failing == 1) {
					expect = append(expect, n)
				}
			}
			arm(t, d, barring, -1, failing, 1, false)
			fails(t, c, "f", api.ErrIO)
			got := d.Queue()
			want(t, "writes", len(got), len(expect))
			for i := range min(len(got), len(expect)) {
				want(t, "by rising sector", got[i].Sector, expect[i])
			}
		}
	}
}
