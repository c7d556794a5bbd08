package flight_test

import (
	"slices"
	"testing"

	"spindle/api"
	"spindle/flight"
)

// wantNothing makes every call on a table that New did not give.
func wantNothing(t *testing.T, what string, x *flight.Table) {
	t.Helper()
	for _, q := range []api.Request{{}, request(1)} {
		wantAdd(t, what+": Add", x, q, 0, api.ErrNil)
	}
	for _, id := range append([]int{1, 2, 64}, none...) {
		for _, answer := range [][]byte{nil, {}, []byte("x")} {
			want(t, what+": Done", x.Done(id, answer), api.ErrNil)
		}
		wantTake(t, x, id, nil, api.ErrNil)
		wantGet(t, what, x, id, api.Entry{}, api.ErrNil)
	}
	wantNumbers(t, what+": Pending", x.Pending())
	wantNumbers(t, what+": Ready", x.Ready())
	want(t, what+": Len", x.Len(), 0)
	want(t, what+": Full", x.Full(), false)
	want(t, what+": Clear", x.Clear(), 0)
	wantEntries(t, what+": All", slices.Collect(x.All()))
}

// R1: a table that is nil, or that New did not give, holds nothing and takes nothing.
func TestNilAndZero(t *testing.T) {
	var zero flight.Table
	refused, _ := flight.New(0)
	for _, c := range []struct {
		name  string
		table *flight.Table
	}{{"nil", nil}, {"zero", &zero}, {"new", new(flight.Table)}, {"refused", refused}} {
		all := c.table.All()
		for range 2 {
			wantNothing(t, c.name, c.table)
			wantEntries(t, c.name+": All, answered ahead", slices.Collect(all))
		}
	}
}

// R5, R9: two tables in turns, with the same numbers, know nothing of one another.
func TestTwoTables(t *testing.T) {
	x, y := fresh(t, 2), fresh(t, 3)
	shared := []byte("shared")
	wantAdd(t, "x", x, api.Request{Cookie: 1, Data: shared}, 1, api.OK)
	wantAdd(t, "y", y, api.Request{Cookie: 2, Data: shared}, 1, api.OK)
	wantAdd(t, "y", y, api.Request{Cookie: 3}, 2, api.OK)
	want(t, "Done of y", y.Done(1, shared), api.OK)
	wantHolds(t, "x", x, 2, api.Entry{ID: 1, Req: api.Request{Cookie: 1, Data: shared}})
	want(t, "Done of x, which has no 2", x.Done(2, shared), api.ErrEntry)
	wantTake(t, x, 1, nil, api.ErrState)
	wantTake(t, y, 1, shared, api.OK)
	wantAdd(t, "x", x, api.Request{Cookie: 4}, 2, api.OK)
	wantAdd(t, "x", x, api.Request{}, 0, api.ErrFull)
	wantAdd(t, "y", y, api.Request{Cookie: 5}, 3, api.OK)
	for entry := range x.All() {
		y.Add(entry.Req)
	}
	want(t, "Clear of x", x.Clear(), 2)
	wantHolds(t, "x, cleared", x, 2)
	wantHolds(t, "y", y, 3,
		api.Entry{ID: 2, Req: api.Request{Cookie: 3}},
		api.Entry{ID: 3, Req: api.Request{Cookie: 5}},
		api.Entry{ID: 4, Req: api.Request{Cookie: 1, Data: shared}})
	wantAdd(t, "x goes on with its own numbers", x, api.Request{}, 3, api.OK)
	wantHolds(t, "a third", fresh(t, 1), 1)
}

// R5: two tables that are called alike tell alike.
func TestAlike(t *testing.T) {
	x, y := fresh(t, 64), fresh(t, 64)
	throwX, throwY := dice(5), dice(5)
	p, q := plain{most: 64}, plain{most: 64}
	for range 3000 {
		p.thrown(t, x, &throwX)
		q.thrown(t, y, &throwY)
	}
	wantEntries(t, "called alike", slices.Collect(x.All()), slices.Collect(y.All())...)
}
