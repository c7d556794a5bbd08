package backup_test

import (
	"fmt"
	"math"
	"testing"

	"spindle/api"
)

// named is an archive, or bytes of one, with what there is to say of it.
type named struct {
	name string
	archive
}

// Archives that may be, at the bounds of each condition.
func rightOnes() []named {
	long := text(600)
	return []named{
		{"one byte of data", full(1, data(0, "a"))},
		{"one byte of a hole", full(1, hole(0, 1))},
		{"the highest ID", full(math.MaxUint64, hole(0, 9))},
		{"a whole one of both", full(7, hole(0, 4), data(4, "abcd"))},
		{"data at both ends", full(7, data(0, "ab"), hole(2, 3), data(5, "cd"))},
		{"holes at both ends", full(7, hole(0, 5), data(5, "ab"), hole(7, 5))},
		{"data that are bytes 0", full(7, data(0, zeros(4)), hole(4, 4))},
		{"runs of one byte", full(7, data(0, "a"), hole(1, 1), data(2, "b"), hole(3, 1), data(4, "c"))},
		{"the greatest size", full(7, hole(0, most))},
		{"the greatest size, with data at its end", full(7, hole(0, most-600), data(most-600, long))},
		{"nothing changed", since(2, 1, 1)},
		{"nothing changed, of the greatest size", since(2, 1, most)},
		{"a parent with a higher ID", since(1, math.MaxUint64, 5, data(2, "a"))},
		{"an ID that is one more than its parent's", since(math.MaxUint64, math.MaxUint64-1, 5, hole(2, 1))},
		{"all changed", since(2, 1, 4, data(0, "abcd"))},
		{"a run that ends at Size", since(2, 1, 9, data(8, "a"))},
		{"a hole that ends at Size", since(2, 1, 9, hole(3, 6))},
		{"a run at the front", since(2, 1, 9, data(0, "a"))},
		{"runs that touch and are not alike", since(2, 1, 9, data(1, "a"), hole(2, 2), data(4, "b"))},
		{"data with a byte between", since(2, 1, 9, data(1, "a"), data(3, "b"))},
		{"holes with a byte between", since(2, 1, 9, hole(1, 2), hole(4, 2))},
		{"a gap, and runs that touch", since(2, 1, 9, data(0, "a"), data(5, "b"), hole(6, 3))},
	}
}

// Archives that may not be, by one condition alone.
func wrongOnes() []named {
	wholly := full(7, hole(0, 4), data(4, "abcd"), hole(8, 4))
	partly := since(7, 3, 12, hole(1, 3), data(4, "abcd"), data(9, "e"))
	list := []named{
		{"none", archive{}},
		{"an ID of 0", since(0, 3, 12, hole(1, 3))},
		{"an ID of 0, whole", full(0, hole(0, 3))},
		{"an ID that is Parent", since(3, 3, 12, hole(1, 3))},
		{"the highest ID, which is Parent", since(math.MaxUint64, math.MaxUint64, 12)},
		{"a Size of 0", since(2, 1, 0)},
		{"a Size of 0, whole", full(1)},
		{"a Size of one more than may be", since(2, 1, most+1)},
		{"a Size of one more than may be, whole", full(1, hole(0, most+1))},
		{"a Size of 2^32", since(2, 1, 1<<32, data(0, "a"))},
		{"the highest Size", since(2, 1, math.MaxUint64)},
		{"the highest Size, whole", full(1, hole(0, math.MaxUint64))},

		{"runs that overlap by a byte", since(2, 1, 12, data(0, "abcd"), hole(3, 2))},
		{"a run within the one ahead", since(2, 1, 12, data(0, "abcd"), hole(1, 2))},
		{"a run at the place of the one ahead", since(2, 1, 12, data(2, "abcd"), hole(2, 4))},
		{"runs that do not rise", since(2, 1, 12, data(6, "abcd"), hole(2, 2))},
		{"runs that do not rise, and touch", since(2, 1, 12, data(6, "abcd"), hole(4, 2))},
		{"the same run twice", since(2, 1, 12, data(6, "ab"), data(6, "ab"))},
		{"the third below the first", since(2, 1, 12, data(4, "a"), data(6, "b"), data(1, "c"))},

		{"a hole of Len 0", since(2, 1, 12, hole(3, 0))},
		{"data of Len 0", since(2, 1, 12, data(3, ""))},
		{"a hole of Len 0 at the end", since(2, 1, 12, hole(12, 0))},
		{"data of Len 0 between others", since(2, 1, 12, hole(1, 2), data(3, ""), data(5, "a"))},
		{"a hole of Len 0 behind all, whole", full(1, data(0, "abcd"), hole(4, 0))},
		{"a hole of Len 0 ahead of all, whole", full(1, hole(0, 0), data(0, "abcd"))},
		{"data of Len 0 between two holes", full(1, hole(0, 4), data(4, ""), hole(4, 4))},

		{"a run that ends one beyond Size", since(2, 1, 9, data(8, "ab"))},
		{"a hole that ends one beyond Size", since(2, 1, 9, hole(3, 7))},
		{"a hole that begins at Size", since(2, 1, 9, hole(9, 1))},
		{"data that begin one beyond Size", since(2, 1, 9, data(10, "a"))},
		{"a whole one that ends one beyond Size", archive{ID: 1, Size: 4, Runs: []run{data(0, "abcde")}}},
		{"a hole from the highest place", since(2, 1, 9, hole(math.MaxUint64, 1))},
		{"a hole of the highest Len", since(2, 1, 9, hole(0, math.MaxUint64))},
		{"a hole whose end wraps to 0", since(2, 1, 9, hole(4, math.MaxUint64-3))},
		{"a hole whose end wraps to just below it", since(2, 1, 9, hole(4, math.MaxUint64))},
		{"a hole from Size on whose end wraps into the device", since(2, 1, 9, hole(9, math.MaxUint64))},
		{"a hole that wraps, and the next one where it ends then", since(2, 1, 9, hole(4, math.MaxUint64-3+2), data(2, "a"))},
		{"data from a place so high that their end wraps", since(2, 1, 9, data(math.MaxUint64-1, "abcd"))},
		{"a whole one whose hole wraps to Size", archive{ID: 1, Size: 9, Runs: []run{hole(0, 4), data(4, "abcde"), hole(9, math.MaxUint64), data(8, "a")}}},

		{"a hole with a byte of Data", since(2, 1, 9, run{Off: 2, Len: 4, Hole: true, Data: []byte{0}})},
		{"a hole with Len bytes of Data", since(2, 1, 9, run{Off: 2, Len: 4, Hole: true, Data: make([]byte, 4)})},
		{"Data of a byte too few", since(2, 1, 9, run{Off: 2, Len: 4, Data: []byte("abc")})},
		{"Data of a byte too many", since(2, 1, 9, run{Off: 2, Len: 4, Data: []byte("abcde")})},
		{"no Data", since(2, 1, 9, run{Off: 2, Len: 4})},
		{"Data of Len 0 that are there", since(2, 1, 9, run{Off: 2, Data: []byte("a")})},
		{"Data of a byte too few at the end, whole", archive{ID: 1, Size: 4, Runs: []run{{Len: 4, Data: []byte("abc")}}}},

		{"holes that touch", since(2, 1, 12, hole(1, 3), hole(4, 2))},
		{"data that touch", since(2, 1, 12, data(1, "abc"), data(4, "de"))},
		{"data that touch, behind others", since(2, 1, 12, hole(0, 1), data(1, "abc"), data(4, "de"), hole(6, 3))},
		{"holes that touch, whole", full(1, hole(0, 4), hole(4, 4))},
		{"data that touch, whole", full(1, data(0, "abcd"), data(4, "e"))},

		{"a whole one without runs", archive{ID: 1, Size: 4}},
		{"a whole one of one byte without runs", archive{ID: 1, Size: 1}},
		{"a gap at the front of a whole one", archive{ID: 1, Size: 8, Runs: []run{hole(1, 3), data(4, "abcd")}}},
		{"a gap in the midst of a whole one", archive{ID: 1, Size: 8, Runs: []run{hole(0, 3), data(4, "abcd")}}},
		{"a gap in the midst of a whole one of data", archive{ID: 1, Size: 9, Runs: []run{data(0, "abcd"), data(5, "efgh")}}},
		{"a gap at the end of a whole one", archive{ID: 1, Size: 8, Runs: []run{hole(0, 4), data(4, "abc")}}},
		{"a gap at the end of a whole hole", archive{ID: 1, Size: 8, Runs: []run{hole(0, 7)}}},
		{"a gap of all but a byte", archive{ID: 1, Size: most, Runs: []run{hole(0, 1)}}},
	}
	for _, a := range []archive{wholly, partly} {
		for n := range a.Runs {
			wrong := func(what string, change func(*run)) {
				list = append(list, named{fmt.Sprint("run ", n, " of ", a.Parent, ": ", what), but(a, func(a *archive) { change(&a.Runs[n]) })})
			}
			wrong("Len 0", func(r *run) { r.Len, r.Data = 0, nil })
			wrong("of the other kind", func(r *run) { r.Hole = !r.Hole })
			wrong("a byte more of Data", func(r *run) { r.Data = append(r.Data, 0) })
			wrong("beyond Size", func(r *run) { r.Off = a.Size })
			wrong("far beyond Size", func(r *run) { r.Off = math.MaxUint64 })
			wrong("far too long", func(r *run) { r.Len = math.MaxUint64 })
		}
	}
	return list
}

// P25.1: at the bounds of each condition an archive may be, and all that is answered of it holds.
func TestRightOnes(t *testing.T) {
	for _, x := range rightOnes() {
		wantErr(t, x.name+": Check", checkOf(t, x.archive), api.OK)
		if x.Size < 1000 {
			hold(t, x.name, x.archive)
		}
	}
}

// P25.1, P25.3, P25.5 to P25.7: one that may not be is refused by all.
func TestWrongOnes(t *testing.T) {
	for _, x := range wrongOnes() {
		wantErr(t, x.name+": Check", checkOf(t, x.archive), api.ErrArchive)
		_, e := encodeOf(t, x.archive)
		wantErr(t, x.name+": Encode", e, api.ErrArchive)
		wantRanges(t, x.name+": Changed", changedOf(t, x.archive), nil)
		wantNotRestored(t, x.name, 0, api.ErrArchive, x.archive)
		wantNotJoined(t, x.name+", first", x.archive, since(x.ID+1, x.ID, x.Size), api.ErrArchive)
		wantNotJoined(t, x.name+", second", since(x.Parent, x.Parent-1, x.Size), x.archive, api.ErrArchive)
		want(t, x.name+": the plain reading", plainMayBe(x.archive), false)
	}
}

// List: no Data may be nil or not.
func TestEmptyLists(t *testing.T) {
	a := archive{ID: 1, Size: 4, Runs: []run{{Len: 4, Hole: true, Data: []byte{}}}}
	wantErr(t, "a hole with an empty list", checkOf(t, a), api.OK)
	wantErr(t, "no run, an empty list", checkOf(t, archive{ID: 2, Parent: 1, Size: 4, Runs: []run{}}), api.OK)
	wantRestored(t, "a hole with an empty list", zeros(4), a, archive{ID: 2, Parent: 1, Size: 4, Runs: []run{}})
}

// P25.1: every small archive, held against the plain reading.
func TestCheckOfEverySmallArchive(t *testing.T) {
	for _, parent := range []uint64{0, 1} {
		for size := range uint64(4) {
			eachRuns(3, func(runs []run) {
				a := archive{ID: 2, Parent: parent, Size: size, Runs: runs}
				if e, wanted := checkOf(t, a), plainCheck(a); e != wanted {
					t.Errorf("%s: Check %d, want %d", shown(a), e, wanted)
				}
			})
		}
	}
}

// eachRuns goes through the lists of at most two runs that lie at places up to most and are as long.
func eachRuns(most uint64, visit func([]run)) {
	var all []run
	for off := range most + 1 {
		for size := range most + 1 {
			all = append(all, hole(off, size), data(off, text(int(size))))
		}
	}
	visit(nil)
	for _, a := range all {
		visit([]run{a})
		for _, b := range all {
			visit([]run{a, b})
		}
	}
}
