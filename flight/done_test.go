package flight_test

import (
	"fmt"
	"testing"

	"spindle/api"
	"spindle/flight"
)

// mixed gives a table for 6 in which 1 was taken, 2 and 4 are pending, 3 and 5 are ready, 6 was never given; and what it holds.
func mixed(t *testing.T) (*flight.Table, []api.Entry) {
	t.Helper()
	x := filled(t, 6, 5)
	done(t, x, 5, 1, 3)
	wantTake(t, x, 1, answerTo(1), api.OK)
	return x, []api.Entry{pending(2), ready(3), pending(4), ready(5)}
}

// P13.2, R2: Done and Take of numbers that are no entry's.
func TestNoSuchEntry(t *testing.T) {
	x, entries := mixed(t)
	wantHolds(t, "mixed", x, 6, entries...)
	for _, id := range append([]int{1, 6, 7, 64, 65}, none...) {
		want(t, fmt.Sprint("Done ", id), x.Done(id, []byte("y")), api.ErrEntry)
		want(t, fmt.Sprint("Done ", id), x.Done(id, nil), api.ErrEntry)
		wantTake(t, x, id, nil, api.ErrEntry)
		wantGet(t, "mixed", x, id, api.Entry{}, api.ErrEntry)
		wantHolds(t, "refused", x, 6, entries...)
	}
	wantAdd(t, "Add behind it", x, request(6), 6, api.OK)
	wantHolds(t, "6 was not answered ahead", x, 6, append(entries, pending(6))...)
}

// P13.2: an empty table has no entry at all.
func TestNoEntryAtAll(t *testing.T) {
	x := fresh(t, 2)
	for _, id := range append([]int{1, 2, 3}, none...) {
		want(t, fmt.Sprint("Done ", id), x.Done(id, []byte("y")), api.ErrEntry)
		wantTake(t, x, id, nil, api.ErrEntry)
		wantGet(t, "empty", x, id, api.Entry{}, api.ErrEntry)
	}
	wantHolds(t, "empty", x, 2)
	add(t, x, 1, 2)
	wantHolds(t, "filled then", x, 2, pending(1), pending(2))
}

// P13.2, R2: Done of a ready one, Take of a pending one.
func TestWrongState(t *testing.T) {
	x, entries := mixed(t)
	for range 2 {
		for _, id := range []int{3, 5} {
			for _, answer := range [][]byte{nil, {}, answerTo(id), []byte("another")} {
				want(t, "Done of a ready one", x.Done(id, answer), api.ErrState)
			}
		}
		for _, id := range []int{2, 4} {
			wantTake(t, x, id, nil, api.ErrState)
		}
		wantHolds(t, "refused", x, 6, entries...)
	}
}

// P13.2: in whatever order entries are done and taken, each has its own answer.
func TestDoneAndTakeInAnyOrder(t *testing.T) {
	for _, c := range []struct{ doneBy, takenBy [3]int }{
		{[3]int{1, 2, 3}, [3]int{1, 2, 3}},
		{[3]int{1, 2, 3}, [3]int{3, 2, 1}},
		{[3]int{3, 1, 2}, [3]int{2, 1, 3}},
		{[3]int{2, 3, 1}, [3]int{3, 1, 2}},
	} {
		what := fmt.Sprint(c)
		x := filled(t, 3, 3)
		entries := rows(pending, 1, 3)
		for _, id := range c.doneBy {
			done(t, x, id)
			entries[id-1] = ready(id)
			wantHolds(t, what+": done", x, 3, entries...)
		}
		taken := map[int]bool{}
		for _, id := range c.takenBy {
			wantTake(t, x, id, answerTo(id), api.OK)
			taken[id] = true
			var left []api.Entry
			for _, entry := range entries {
				if !taken[entry.ID] {
					left = append(left, entry)
				}
			}
			wantHolds(t, what+": taken", x, 3, left...)
			want(t, what+": Done of a taken one", x.Done(id, []byte("y")), api.ErrEntry)
			wantTake(t, x, id, nil, api.ErrEntry)
		}
	}
}

// P13.2: an answer may be empty; its entry is ready all the same.
func TestEmptyAnswers(t *testing.T) {
	for _, answer := range [][]byte{nil, {}, make([]byte, 0, 10)} {
		x := filled(t, 2, 2)
		want(t, "Done", x.Done(1, answer), api.OK)
		empty := api.Entry{ID: 1, Req: request(1), Ready: true}
		wantHolds(t, "done without bytes", x, 2, empty, pending(2))
		want(t, "Done again, with bytes", x.Done(1, []byte("x")), api.ErrState)
		want(t, "Done again, without", x.Done(1, nil), api.ErrState)
		wantHolds(t, "refused", x, 2, empty, pending(2))
		wantTake(t, x, 1, nil, api.OK)
		wantTake(t, x, 1, nil, api.ErrEntry)
		wantHolds(t, "taken", x, 2, pending(2))
	}
}

// P13.2: answers of all lengths, of any bytes, and that are the same.
func TestAnswersAreBytes(t *testing.T) {
	for _, answer := range [][]byte{{0}, {0xff}, []byte("\x00\x00"), []byte("a\xffb"), make([]byte, 511), make([]byte, 1<<20+32)} {
		x := filled(t, 2, 2)
		for id := range 2 {
			want(t, "Done", x.Done(id+1, answer), api.OK)
		}
		for id := range 2 {
			wantGet(t, "ready", x, id+1, api.Entry{ID: id + 1, Req: request(id + 1), Ready: true, Answer: answer}, api.OK)
			wantTake(t, x, id+1, answer, api.OK)
		}
	}
}
