package cache_test

import (
	"testing"

	"spindle/api"
	"spindle/cache"
)

func wantBack(t *testing.T, what string, c *cache.Cache, sector int, e api.Errno) {
	t.Helper()
	n, got := c.Back()
	want(t, what+": the sector of Back", n, sector)
	wantErr(t, what+": Back", got, e)
}

// P5.6: the dirty data lines one by one, the one used least lately first; notes never
func TestBack(t *testing.T) {
	d, c := made(t, 8, "abcdefgh")
	play(t, c, dirtyLines+" r5")
	wantLines(t, "ahead", c, "4 1n* 3* 0n* 6* 2 5*")
	for _, step := range []struct {
		sector       int
		lines, queue string
	}{
		{3, "4 1n* 3 0n* 6* 2 5*", "3C"},
		{6, "4 1n* 3 0n* 6 2 5*", "3C 6E"},
		{5, "4 1n* 3 0n* 6 2 5", "3C 6E 5A"},
		{-1, "4 1n* 3 0n* 6 2 5", "3C 6E 5A"},
		{-1, "4 1n* 3 0n* 6 2 5", "3C 6E 5A"},
	} {
		wantBack(t, "one by one", c, step.sector, api.OK)
		wantLines(t, "one by one", c, step.lines)
		wantQueue(t, "one by one", d, step.queue)
	}
	wantAsked(t, "no barrier", d, 2, 3, 0, 0)
	wantCounts(t, "no use", c, 1, 7, 0, 3)
	wantSafe(t, "nothing is safe", d, "abcdefgh")
}

// P5.6: there is no dirty data line
func TestBackOfNothing(t *testing.T) {
	for _, calls := range []string{"", "r3", "r3 r0", "w0A", "w0A w1B", "w3A f", "w3A b", "w3A t3", "w0A r3 w1C"} {
		d, c := made(t, 4, "abcdefgh")
		play(t, c, calls)
		before := lookAt(c, d)
		wantBack(t, calls, c, -1, api.OK)
		wantLook(t, "behind "+calls+", Back", c, d, before)
	}
}

// P5.6: sector 0 is told as 0, if it is no note
func TestBackOfSector0(t *testing.T) {
	d := holding(t, "ab")
	c := over(t, d, 2)
	play(t, c, "w0A")
	wantBack(t, "no notes", c, 0, api.OK)
	wantBack(t, "no notes", c, -1, api.OK)
	wantQueue(t, "no notes", d, "0A")
}

// P5.6: the write fails: -1 and ErrIO, the line is dirty still, and no other is tried
func TestBackThatFails(t *testing.T) {
	for _, land := range []bool{false, true} {
		d, c := made(t, 4, "abcdefgh")
		play(t, c, "w0A w3B w4C")
		arm(t, d, writing, 3, 0, 2, land)
		for range 2 {
			wantBack(t, "a fault", c, -1, api.ErrIO)
			wantLines(t, "a fault", c, "0n* 3* 4*")
			wantCounts(t, "a fault", c, 0, 3, 0, 0)
		}
		wantAsked(t, "a fault", d, 0, 0, 0, 2)
		if land {
			wantQueue(t, "landed twice", d, "3B 3B")
		} else {
			wantQueue(t, "not landed", d, "")
		}
		wantBack(t, "no more faults", c, 3, api.OK)
		wantBack(t, "no more faults", c, 4, api.OK)
		wantBack(t, "no more faults", c, -1, api.OK)
		wantLines(t, "no more faults", c, "0n* 3 4")
		wantCounts(t, "no more faults", c, 0, 3, 0, 2)
	}
}

// P5.6: a line that is written anew is dirty again, and stands by its last use
func TestBackAndWriteAgain(t *testing.T) {
	d, c := made(t, 4, "abcdefgh")
	play(t, c, "w3A w4B b w3C")
	wantBack(t, "4 was used less lately", c, 4, api.OK)
	wantBack(t, "3 again", c, 3, api.OK)
	wantQueue(t, "3 again", d, "3A 4B 3C")
	play(t, c, "f")
	wantSafe(t, "the last one", d, "abcCBfgh")
}
