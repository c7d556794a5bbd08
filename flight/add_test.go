package flight_test

import (
	"fmt"
	"math"
	"testing"

	"spindle/api"
)

// P13.2: an entry has the next number and the request, and is pending.
func TestAdd(t *testing.T) {
	x := fresh(t, 5)
	for n := 1; n <= 5; n++ {
		wantHolds(t, "ahead of Add", x, 5, rows(pending, 1, n-1)...)
		wantAdd(t, "Add", x, request(n), n, api.OK)
		wantHolds(t, "behind Add", x, 5, rows(pending, 1, n)...)
	}
}

// P13.2: whatever request it is, right or not, and however often it comes.
func TestAddAnyRequest(t *testing.T) {
	for _, q := range []api.Request{
		{},
		{Data: []byte{}},
		{Data: []byte{0}},
		{Type: api.CmdWrite, Length: 4, Data: []byte("abcd")},
		{Type: api.CmdDisc},
		{Flags: math.MaxUint16, Type: math.MaxUint16, Cookie: math.MaxUint64, Offset: math.MaxUint64, Length: math.MaxUint64, Data: make([]byte, 1<<20+1)},
		{Type: api.CmdRead, Length: 3, Data: []byte("more than it says")},
	} {
		x := fresh(t, 3)
		var entries []api.Entry
		for id := 1; id <= 3; id++ {
			wantAdd(t, "Add", x, q, id, api.OK)
			entries = append(entries, api.Entry{ID: id, Req: q})
			wantHolds(t, "any request", x, 3, entries...)
		}
		want(t, "Done", x.Done(2, []byte("x")), api.OK)
		entries[1].Ready, entries[1].Answer = true, []byte("x")
		wantHolds(t, "any request, done", x, 3, entries...)
	}
}

// P13.2, P13.3: full by one entry and by 64, pending or ready; a Take makes room for one.
func TestFull(t *testing.T) {
	for _, most := range []int{1, 2, 64} {
		what := fmt.Sprintf("%d", most)
		x := filled(t, most, most)
		for range 3 {
			wantAdd(t, what+", all pending: Add", x, request(0), 0, api.ErrFull)
		}
		wantHolds(t, what+", all pending", x, most, rows(pending, 1, most)...)
		for id := 1; id <= most; id++ {
			done(t, x, id)
			wantAdd(t, what+", some ready: Add", x, request(0), 0, api.ErrFull)
		}
		wantHolds(t, what+", all ready", x, most, rows(ready, 1, most)...)

		entries := rows(ready, 1, most)
		for n := range 2 * most {
			first := entries[0]
			wantTake(t, x, first.ID, answerTo(first.ID), api.OK)
			entries = entries[1:]
			wantHolds(t, what+", one taken", x, most, entries...)
			wantAdd(t, what+": Add behind Take", x, request(most+1+n), most+1+n, api.OK)
			wantAdd(t, what+": Add behind that", x, request(0), 0, api.ErrFull)
			done(t, x, most+1+n)
			entries = append(entries, ready(most+1+n))
			wantHolds(t, what+", one added", x, most, entries...)
		}
	}
}

// P13.2: a number is not given anew, neither behind a refusal nor behind a Take, of the last one too.
func TestNumbersGoOn(t *testing.T) {
	x := filled(t, 2, 2)
	for range 5 {
		wantAdd(t, "full", x, request(0), 0, api.ErrFull)
	}
	done(t, x, 2)
	wantTake(t, x, 2, answerTo(2), api.OK)
	wantAdd(t, "behind refusals and a Take of the last", x, request(3), 3, api.OK)
	wantHolds(t, "the gap stays", x, 2, pending(1), pending(3))
	done(t, x, 1, 3)
	wantTake(t, x, 3, answerTo(3), api.OK)
	wantTake(t, x, 1, answerTo(1), api.OK)
	wantHolds(t, "emptied", x, 2)
	wantAdd(t, "an emptied table", x, request(4), 4, api.OK)

	x = fresh(t, 1)
	for id := 1; id <= 5000; id++ {
		wantAdd(t, "one behind the other", x, request(id), id, api.OK)
		done(t, x, id)
		wantTake(t, x, id, answerTo(id), api.OK)
	}
	wantHolds(t, "at last", x, 1)
}
