package flight_test

import (
	"fmt"
	"testing"

	"spindle/api"
)

// P13.4: all entries are taken out, pending or ready; how many they were is told.
func TestClear(t *testing.T) {
	for most := 1; most <= 64; most += 9 {
		for n := 0; n <= most; n++ {
			what := fmt.Sprintf("%d of %d", n, most)
			x := filled(t, most, n)
			for id := 1; id <= n; id += 2 {
				done(t, x, id)
			}
			want(t, what+": Clear", x.Clear(), n)
			wantHolds(t, what+", cleared", x, most)
			for id := 1; id <= n; id++ {
				wantGet(t, what+", cleared", x, id, api.Entry{}, api.ErrEntry)
				want(t, what+", cleared: Done", x.Done(id, nil), api.ErrEntry)
				wantTake(t, x, id, nil, api.ErrEntry)
			}
			want(t, what+": Clear again", x.Clear(), 0)
			add(t, x, n+1, n+most)
			wantAdd(t, what+", filled again", x, request(0), 0, api.ErrFull)
			wantHolds(t, what+", filled again", x, most, rows(pending, n+1, n+most)...)
			want(t, what+": Clear of a full one", x.Clear(), most)
			wantAdd(t, what+": Add at last", x, request(n+most+1), n+most+1, api.OK)
		}
	}
}

// P13.4: Clear of an empty table changes nothing: of a new one, of one that was emptied by Takes, by Clear.
func TestClearOfNothing(t *testing.T) {
	x := fresh(t, 3)
	for range 3 {
		want(t, "Clear of a new one", x.Clear(), 0)
		wantHolds(t, "new", x, 3)
	}
	add(t, x, 1, 2)
	done(t, x, 1, 2)
	wantTake(t, x, 2, answerTo(2), api.OK)
	wantTake(t, x, 1, answerTo(1), api.OK)
	want(t, "Clear of an emptied one", x.Clear(), 0)
	add(t, x, 3, 3)
	want(t, "Clear", x.Clear(), 1)
	want(t, "Clear again", x.Clear(), 0)
	add(t, x, 4, 6)
	wantHolds(t, "numbers go on", x, 3, rows(pending, 4, 6)...)
}

// P13.4, P13.5: behind a Clear an entry has nothing of one that was there.
func TestNothingStaysBehindClear(t *testing.T) {
	x := filled(t, 2, 2)
	done(t, x, 1, 2)
	x.Clear()
	wantAdd(t, "Add", x, api.Request{}, 3, api.OK)
	wantHolds(t, "another one", x, 2, api.Entry{ID: 3})
	wantTake(t, x, 3, nil, api.ErrState)
	want(t, "Done", x.Done(3, nil), api.OK)
	wantTake(t, x, 3, nil, api.OK)
}
