package cache_test

import (
	"slices"
	"testing"

	"spindle/api"
)

// P5.5: which lines are written, and that there is just one barrier; a dirty note that is named makes it a Flush
func TestThrough(t *testing.T) {
	const ahead = "4 5* 1n* 3* 0n* 6* 2"
	for _, c := range []struct {
		call, lines      string
		writes, barriers uint64
		safe             string
	}{
		{"t", ahead, 0, 1, "abcdefgh"},
		{"t7", ahead, 0, 1, "abcdefgh"},
		{"t4,2,7", ahead, 0, 1, "abcdefgh"},
		{"t5", "4 5 1n* 3* 0n* 6* 2", 1, 1, "abcdeAgh"},
		{"t5,5,5", "4 5 1n* 3* 0n* 6* 2", 1, 1, "abcdeAgh"},
		{"t6,3", "4 5* 1n* 3 0n* 6 2", 2, 1, "abcCefEh"},
		{"t3,6,4,3,7,6", "4 5* 1n* 3 0n* 6 2", 2, 1, "abcCefEh"},
		{"t6,5,4,3,2", "4 5 1n* 3 0n* 6 2", 3, 1, "abcCeAEh"},
		{"t0", "4 5 1n 3 0n 6 2", 5, 2, "DBcCeAEh"},
		{"t1", "4 5 1n 3 0n 6 2", 5, 2, "DBcCeAEh"},
		{"t0,1,0", "4 5 1n 3 0n 6 2", 5, 2, "DBcCeAEh"},
		{"t5,1", "4 5 1n 3 0n 6 2", 5, 2, "DBcCeAEh"},
		{"t1,5", "4 5 1n 3 0n 6 2", 5, 2, "DBcCeAEh"},
		{"t7,0,2", "4 5 1n 3 0n 6 2", 5, 2, "DBcCeAEh"},
	} {
		d, k := made(t, 8, "abcdefgh")
		play(t, k, dirtyLines+" "+c.call)
		wantLines(t, c.call, k, c.lines)
		wantSafe(t, c.call, d, c.safe)
		wantQueue(t, c.call, d, "")
		wantAsked(t, c.call, d, 2, c.writes, c.barriers, 0)
		wantCounts(t, c.call, k, 0, 7, 0, c.writes)
		wantPeeks(t, c.call, k, "DBcCeAEh")
	}
}

// P5.5: a note that has a clean line, or none, is no reason for a Flush
func TestThroughOfNotesThatAreNotDirty(t *testing.T) {
	d, c := made(t, 8, "abcdefgh")
	play(t, c, "r0 w3A w4B t0,1,3")
	wantLines(t, "data 3 alone", c, "0n 3 4*")
	wantSafe(t, "data 3 alone", d, "abcAefgh")
	wantAsked(t, "data 3 alone", d, 1, 1, 1, 0)
	play(t, c, "w1C t0,3")
	wantLines(t, "another note is dirty", c, "0n 3 4* 1n*")
	wantAsked(t, "a barrier", d, 1, 1, 2, 0)
}

// P5.5: also what waits at the disk and has no line is made safe
func TestThroughOfWhatWaits(t *testing.T) {
	d, c := made(t, 1, "abcdefgh")
	play(t, c, "w3A w4B b")
	wantQueue(t, "both wait", d, "3A 4B")
	play(t, c, "t3")
	wantSafe(t, "a barrier makes all safe that waits", d, "abcABfgh")
	wantAsked(t, "a barrier", d, 0, 2, 1, 0)
	play(t, c, "w5C t")
	wantLines(t, "of no sectors", c, "5*")
	wantAsked(t, "of no sectors", d, 0, 2, 2, 0)
	wantErr(t, "of nil", c.Through(nil), api.OK)
	wantErr(t, "of an empty list", c.Through([]int{}), api.OK)
	wantAsked(t, "of no sectors", d, 0, 2, 4, 0)
}

// P5.5: the first error ends it; by rising sector; what was done ahead of it stays done
func TestThroughThatFails(t *testing.T) {
	for _, c := range []struct {
		what                string
		kind, sector, after int
		lines, queue, safe  string
		landed              string
		written             uint64
	}{
		{"3", writing, 3, 0, "4 5* 1n* 3* 0n* 6* 2", "", "abcdefgh", "3C", 0},
		{"the first", writing, -1, 0, "4 5* 1n* 3* 0n* 6* 2", "", "abcdefgh", "3C", 0},
		{"6", writing, 6, 0, "4 5* 1n* 3 0n* 6* 2", "3C", "abcdefgh", "3C 6E", 1},
		{"the barrier", barring, -1, 0, "4 5* 1n* 3 0n* 6 2", "3C 6E", "abcdefgh", "3C 6E", 2},
	} {
		for _, land := range []bool{false, true} {
			d, k := made(t, 8, "abcdefgh")
			play(t, k, dirtyLines)
			arm(t, d, c.kind, c.sector, c.after, 1, land)
			fails(t, k, "t6,3,6,2,3", api.ErrIO)
			wantLines(t, c.what, k, c.lines)
			wantSafe(t, c.what, d, c.safe)
			wantCounts(t, c.what, k, 0, 7, 0, c.written)
			wantAsked(t, c.what, d, 2, c.written, 0, 1)
			if land {
				wantQueue(t, c.what, d, c.landed)
			} else {
				wantQueue(t, c.what, d, c.queue)
			}
			play(t, k, "t6,3,6,2,3")
			wantSafe(t, c.what+", again", d, "abcCefEh")
			wantLines(t, c.what+", again", k, "4 5* 1n* 3 0n* 6 2")
		}
	}
}

// P5.5: with a dirty note it fails as Flush does, also by data that were not named
func TestThroughOfANoteThatFails(t *testing.T) {
	for _, f := range []api.Fault{
		{Kind: writing, Sector: 5, Times: 1}, {Kind: writing, Sector: 5, Times: 1, Land: true}, {Kind: writing, Sector: 1, Times: 1}, {Kind: writing, Sector: 0, Times: 1, Land: true},
		{Kind: barring, Sector: -1, Times: 1}, {Kind: barring, Sector: -1, After: 1, Times: 1},
	} {
		d, c := made(t, 8, "abcdefgh")
		other, k := made(t, 8, "abcdefgh")
		play(t, c, dirtyLines)
		play(t, k, dirtyLines)
		wantErr(t, "Fault", d.Fault(f), api.OK)
		wantErr(t, "Fault", other.Fault(f), api.OK)
		fails(t, c, "t3,1", api.ErrIO)
		fails(t, k, "f", api.ErrIO)
		wantLook(t, "as Flush", c, d, lookAt(k, other))
	}
}

// P5.5, R4: the list is neither changed nor kept, its spare room included
func TestThroughLeavesTheListAsItIs(t *testing.T) {
	_, c := made(t, 8, "abcdefgh")
	play(t, c, dirtyLines)
	room := []int{6, 3, 6, 7, 5, 3, 9, 9, 9}
	for _, n := range []int{6, 0, 3} {
		before := slices.Clone(room)
		wantErr(t, "Through", c.Through(room[:n]), api.OK)
		if !slices.Equal(room, before) {
			t.Error("what was handed in is changed:", room)
		}
	}
	room[1] = 1
	before := slices.Clone(room)
	wantErr(t, "Through, as Flush", c.Through(room[:3]), api.OK)
	if !slices.Equal(room, before) {
		t.Error("what was handed in is changed:", room)
	}
}

// P5.5: a long list, in which each sector is named many times
func TestThroughOfALongList(t *testing.T) {
	d, c := made(t, 8, "abcdefgh")
	play(t, c, dirtyLines)
	var sectors []int
	for i := range 100_000 {
		sectors = append(sectors, 2+i*5%6)
	}
	wantErr(t, "Through", c.Through(sectors), api.OK)
	wantAsked(t, "each line once", d, 2, 3, 1, 0)
	wantErr(t, "Through", c.Through(append(sectors, 8)), api.ErrSector)
	wantErr(t, "Through", c.Through(append(sectors, 1)), api.OK)
	wantAsked(t, "a Flush", d, 2, 5, 3, 0)
}
