package cache_test

import (
	"testing"

	"spindle/api"
	"spindle/cache"
	"spindle/disk"
)

// The chapter's examples, by their numbers.

func example(t *testing.T, lines int) (*disk.Disk, *cache.Cache) {
	t.Helper()
	d := holding(t, "........")
	return d, over(t, d, lines, api.Span{First: 0, Count: 1})
}

func TestExample1(t *testing.T) {
	d, c := example(t, 2)
	play(t, c, "w3A w4B")
	wantLines(t, "two dirty lines", c, "3* 4*")
	wantAsked(t, "the disk has no write", d, 0, 0, 0, 0)
	play(t, c, "r5")
	wantQueue(t, "sector 3 gave way", d, "3A")
	wantLines(t, "sector 3 gave way", c, "4* 5")
	wantCounts(t, "sector 3 gave way", c, 0, 3, 1, 1)
	wantRead(t, c, 3, full('A'))
	wantLines(t, "sector 4 gave way", c, "5 3")
	wantQueue(t, "sector 4 gave way", d, "3A 4B")
}

func TestExample2(t *testing.T) {
	for failing := range 3 {
		d, c := example(t, 2)
		play(t, c, "w0A w3B w4C")
		wantLines(t, "sector 3 gave way", c, "0n* 4*")
		play(t, c, "w5D")
		wantLines(t, "sector 4 gave way", c, "0n* 5*")
		wantQueue(t, "sector 4 gave way", d, "3B 4C")
		if failing < 2 {
			arm(t, d, barring, -1, failing, 1, false)
			fails(t, c, "f", api.ErrIO)
		}
		switch failing {
		case 0:
			wantQueue(t, "the first barrier failed", d, "3B 4C 5D")
			wantSafe(t, "the first barrier failed", d, "........")
		case 1:
			wantQueue(t, "the second barrier failed", d, "0A")
			wantSafe(t, "the second barrier failed", d, "...BCD..")
		case 2:
			play(t, c, "f")
			wantQueue(t, "Flush", d, "")
			wantSafe(t, "Flush", d, "A..BCD..")
			wantSafeSectors(t, "Flush", c, "++++++++")
			wantAsked(t, "Flush", d, 0, 4, 2, 0)
		}
	}
}

func TestExample3(t *testing.T) {
	d, c := example(t, 1)
	play(t, c, "w0A r3")
	wantSafe(t, "a Flush", d, "A.......")
	wantLines(t, "sector 0 gave way", c, "3")
	wantCounts(t, "sector 0 gave way", c, 0, 2, 1, 1)
	wantAsked(t, "a barrier, (0, A), a barrier; a read", d, 1, 1, 2, 0)
}

func TestExample4(t *testing.T) {
	d, c := example(t, 2)
	play(t, c, "w3A w4B")
	arm(t, d, barring, -1, 0, 1, false)
	fails(t, c, "t4,4,3", api.ErrIO)
	wantQueue(t, "ahead of the barrier", d, "3A 4B")

	d, c = example(t, 2)
	play(t, c, "w3A w4B t4,4,3")
	wantSafe(t, "Through([4, 4, 3])", d, "...AB...")
	wantAsked(t, "Through([4, 4, 3])", d, 0, 2, 1, 0)
	fails(t, c, "t9", api.ErrSector)
	play(t, c, "w0A w4C t0")
	wantSafe(t, "Through([0])", d, "A..AC...")
	wantAsked(t, "Through([0])", d, 0, 4, 3, 0)
}

func TestExample5(t *testing.T) {
	for times, back := range map[int]api.Errno{1: api.OK, 2: api.ErrIO} {
		d, c := example(t, 2)
		arm(t, d, writing, 3, 0, times, false)
		play(t, c, "w3A w4B")
		fails(t, c, "r5", api.ErrIO)
		wantLines(t, "Read(5)", c, "3* 4*")
		wantPeeks(t, "Read(5)", c, "...AB...")
		if back != api.OK {
			n, e := c.Back()
			want(t, "Back that fails", n, -1)
			wantErr(t, "Back that fails", e, back)
		}
		n, e := c.Back()
		want(t, "Back", n, 3)
		wantErr(t, "Back", e, api.OK)
	}
}

func TestExample6(t *testing.T) {
	_, c := example(t, 2)
	want(t, "Safe at first", c.Safe(3), true)
	play(t, c, "w3A")
	want(t, "Safe behind Write", c.Safe(3), false)
	play(t, c, "b")
	want(t, "Dirty behind Back", c.Dirty(3), false)
	want(t, "Safe behind Back", c.Safe(3), false)
	play(t, c, "f")
	want(t, "Safe behind Flush", c.Safe(3), true)
}
