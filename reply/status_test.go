package reply_test

import (
	"slices"
	"testing"

	"spindle/api"
)

// P12.1: a status needs chunks and contexts, of each of which it has a list.
func TestStatusOfEverySession(t *testing.T) {
	for _, s := range kinds() {
		for most := range 4 {
			s := telling(s, []uint32{9, 0, narrow}[:most]...)
			for n := range 5 {
				o := lists(slices.Repeat([][]api.StatusRun{list(1024, 0)}, n)...)
				for _, flags := range []uint16{0, api.FlagOne, api.FlagFua, 65535} {
					c := call{s, flagged(ask(api.CmdStatus, 512, 1024), flags), o}
					if (s.Structured || s.Extended) && n == most && n > 0 {
						wantFits(t, "as many lists as contexts", c)
					} else {
						wantOutcome(t, "lists", c)
					}
				}
			}
		}
	}
	ids := make([]uint32, 1000)
	o := lists(slices.Repeat([][]api.StatusRun{list(1, 0, 2, 3)}, 1000)...)
	for _, s := range []api.Session{chunked, wide, both} {
		wantFits(t, "many contexts", call{telling(s, ids...), ask(api.CmdStatus, 0, 3), o})
	}
}

// P12.1: the runs of one list, which are the length together; the same list first and last among others that are right.
func TestRunsOfOneList(t *testing.T) {
	for _, x := range []struct {
		what   string
		length uint64
		runs   []api.StatusRun
		fits   bool
	}{
		{"one", 1024, list(1024, 0), true},
		{"two", 1024, list(512, 3, 512, 0), true},
		{"the same flags twice", 1024, list(512, 3, 512, 3), true},
		{"of one byte", 3, list(1, 0, 1, 1, 1, 0), true},
		{"one byte", 1, list(1, 1), true},
		{"great flags", 1024, list(1024, narrow), true},
		{"one below", 1024, list(1023, 0), false},
		{"one above", 1024, list(1025, 0), false},
		{"one below in two", 1024, list(512, 0, 511, 0), false},
		{"one above in two", 1024, list(512, 0, 513, 0), false},
		{"one behind the end", 1024, list(1024, 0, 1, 0), false},
		{"no run", 1024, nil, false},
		{"an empty list", 1024, []api.StatusRun{}, false},
		{"Len 0 alone", 1024, list(0, 3), false},
		{"Len 0 first", 1024, list(0, 0, 1024, 0), false},
		{"Len 0 amid", 1024, list(512, 0, 0, 1, 512, 0), false},
		{"Len 0 last", 1024, list(1024, 0, 0, 0), false},
		{"no byte, no run", 0, nil, false},
		{"no byte, Len 0", 0, list(0, 0), false},
		{"no byte, Len 1", 0, list(1, 0), false},
		{"2^32 too few", 1<<32 + 512, list(512, 0), false},
		{"Len at 2^32 - 1", narrow, list(narrow, 0), true},
		{"twice that", 2 * narrow, list(narrow, 0, narrow, 0), true},
		{"2^32 together", 1 << 32, list(narrow, 0, 1, 0), true},
		{"2^32 together for none", 0, list(narrow, 0, 1, 0), false},
	} {
		for _, s := range []api.Session{telling(chunked, 1), telling(wide, 1), telling(both, 1)} {
			wantRuns(t, x.what, s, x.length, x.runs, x.fits)
		}
	}
}

// wantRuns holds a list alone, and at each place among others that are right.
func wantRuns(t *testing.T, what string, s api.Session, length uint64, runs []api.StatusRun, fits bool) {
	t.Helper()
	wanted := wantOutcome
	if fits {
		wanted = wantFits
	}
	for _, flags := range []uint16{0, api.FlagOne} {
		r := flagged(ask(api.CmdStatus, 7, length), flags)
		wanted(t, what, call{s, r, lists(runs)})
		for i := range 3 {
			o := well(telling(s, 1, 2, 3), r)
			if length > narrow && !s.Extended {
				o = lists(runs, runs, runs)
			}
			o.Runs[i] = runs
			wanted(t, what+" among others", call{telling(s, 1, 2, 3), r, o})
		}
	}
}

// P12.1: above 2^32 - 1 there is room for a Len and for Flags with extended headers alone.
func TestGreatRuns(t *testing.T) {
	for _, x := range []struct {
		what   string
		length uint64
		runs   []api.StatusRun
	}{
		{"Len", 1 << 32, list(1<<32, 0)},
		{"the second Len", 1<<32 + 1, list(1, 0, 1<<32, 0)},
		{"the greatest Len", top, list(top, 0)},
		{"Flags", 1024, list(1024, 1<<32)},
		{"the second Flags", 1024, list(512, 0, 512, 1<<32)},
		{"Flags of a high bit", 1024, list(512, 1<<63, 512, 0)},
		{"the greatest Flags", 1024, list(1024, top)},
		{"both", top, list(top, top)},
	} {
		wantRuns(t, x.what, telling(chunked, 1), x.length, x.runs, false)
		wantRuns(t, x.what, telling(wide, 1), x.length, x.runs, true)
		wantRuns(t, x.what, telling(both, 1), x.length, x.runs, true)
	}
}

// P12.1: sums do not wrap.
func TestSumsOfRuns(t *testing.T) {
	for _, x := range []struct {
		what   string
		length uint64
		runs   []api.StatusRun
	}{
		{"0 in 64 bits", 0, list(top, 0, 1, 0)},
		{"1 in 64 bits", 1, list(top, 0, 2, 0)},
		{"512 in 64 bits", 512, list(1<<63, 0, 1<<63, 0, 512, 0)},
		{"512 at first, and once more", 512, list(512, 0, top, 0, 1, 0)},
		{"top in 64 bits", top, list(top, 0, 1, 0, top, 0)},
		{"one above top", top, list(top, 0, 1, 0)},
		{"512 in 64 bits, of four", 512, list(1<<62, 0, 1<<62, 0, 1<<62, 0, 1<<62, 0, 512, 0)},
	} {
		for _, s := range []api.Session{telling(chunked, 1), telling(wide, 1), telling(both, 1)} {
			wantRuns(t, x.what, s, x.length, x.runs, false)
		}
	}
	wantRuns(t, "top", telling(wide, 1), top, list(1<<63, 0, 1<<63-1, 0), true)
}

// P12.1: a status has no pieces.
func TestPiecesBesideAStatus(t *testing.T) {
	for _, s := range sessions() {
		r := ask(api.CmdStatus, 512, 4)
		for _, p := range []api.Piece{{}, hole(512, 4), text(512, "abcd"), hole(0, 0)} {
			o := well(s, r)
			o.Pieces = []api.Piece{p}
			wantOutcome(t, "beside runs", call{s, r, o})
			wantOutcome(t, "alone", call{s, r, pieces(p)})
		}
	}
	o := lists(list(4, 0))
	o.Pieces = []api.Piece{}
	wantFits(t, "an empty list", call{telling(chunked, 1), ask(api.CmdStatus, 512, 4), o})
}

// P12.1: every other command, and what is none, has neither.
func TestOthersTellNothing(t *testing.T) {
	for _, s := range sessions() {
		for _, command := range others() {
			for _, length := range []uint64{0, 4, 1 << 40, top} {
				for _, flags := range []uint16{0, api.FlagDF, api.FlagOne, api.FlagPayload, 65535} {
					r := flagged(ask(command, 512, length), flags)
					wantFits(t, "nothing", call{s, r, api.Outcome{}})
					wantFits(t, "empty lists", call{s, r, api.Outcome{Pieces: []api.Piece{}, Runs: [][]api.StatusRun{}}})
					wantOutcome(t, "a piece", call{s, r, pieces(hole(512, 4))})
					wantOutcome(t, "a piece of none", call{s, r, pieces(api.Piece{})})
					wantOutcome(t, "a list", call{s, r, lists(list(4, 0))})
					wantOutcome(t, "lists", call{s, r, lists(list(4, 0), list(4, 0), list(4, 0))})
					wantOutcome(t, "a list without a run", call{s, r, lists(nil)})
				}
			}
		}
	}
}
