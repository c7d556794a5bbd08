package flight_test

import (
	"testing"

	"spindle/api"
	"spindle/flight"
)

// The chapter's examples.
func TestExamples(t *testing.T) {
	q := api.Request{Type: api.CmdFlush, Cookie: 7}
	x := fresh(t, 2)
	wantAdd(t, "Add", x, q, 1, api.OK)
	wantAdd(t, "Add", x, q, 2, api.OK)
	wantAdd(t, "Add", x, q, 0, api.ErrFull)
	want(t, "Done 2", x.Done(2, []byte("x")), api.OK)
	want(t, "again", x.Done(2, []byte("x")), api.ErrState)
	wantTake(t, x, 1, nil, api.ErrState)
	wantTake(t, x, 2, []byte("x"), api.OK)
	wantTake(t, x, 2, nil, api.ErrEntry)
	wantAdd(t, "Add", x, q, 3, api.OK)
	wantNumbers(t, "Pending", x.Pending(), 1, 3)
	wantNumbers(t, "Ready", x.Ready())
	want(t, "Clear", x.Clear(), 2)
	want(t, "Len", x.Len(), 0)
	wantAdd(t, "Add", x, q, 4, api.OK)
	for _, most := range []int{0, 65} {
		_, e := flight.New(most)
		want(t, "New", e, api.ErrMost)
	}
}
