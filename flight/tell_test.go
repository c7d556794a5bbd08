package flight_test

import (
	"fmt"
	"slices"
	"testing"

	"spindle/api"
)

// P13.3: of an empty table.
func TestTellNothing(t *testing.T) {
	x := fresh(t, 1)
	want(t, "Pending", len(x.Pending()), 0)
	want(t, "Ready", len(x.Ready()), 0)
	want(t, "Len", x.Len(), 0)
	want(t, "Full", x.Full(), false)
	for range x.All() {
		t.Error("All tells an entry")
	}
}

// P13.3: of a full table, by each number of those that are ready.
func TestTellAll(t *testing.T) {
	throw := dice(3)
	for _, most := range []int{1, 2, 7, 64} {
		x := filled(t, most, most)
		entries := rows(pending, 1, most)
		for i, id := range throw.shuffled(most) {
			done(t, x, id)
			entries[id-1] = ready(id)
			wantHolds(t, fmt.Sprintf("%d of %d ready", i+1, most), x, most, entries...)
		}
		want(t, "all ready", len(x.Ready()), most)
	}
}

// P13.3: Get of a pending one, of a ready one, of none; a pending one has no answer.
func TestGet(t *testing.T) {
	x, entries := mixed(t)
	for range 2 {
		wantGet(t, "pending", x, 2, api.Entry{ID: 2, Req: request(2)}, api.OK)
		wantGet(t, "ready", x, 3, api.Entry{ID: 3, Req: request(3), Ready: true, Answer: answerTo(3)}, api.OK)
		wantGet(t, "taken", x, 1, api.Entry{}, api.ErrEntry)
		wantGet(t, "never given", x, 6, api.Entry{}, api.ErrEntry)
		wantHolds(t, "telling changes nothing", x, 6, entries...)
	}
}

// P13.3, R5: numbers rise whatever way the entries came there and however often it is asked.
func TestTellRising(t *testing.T) {
	throw := dice(13)
	for range 50 {
		x := filled(t, 64, 64)
		var left []api.Entry
		for id := 1; id <= 64; id++ {
			switch throw.below(3) {
			case 0:
				done(t, x, id)
				x.Take(id)
			case 1:
				done(t, x, id)
				left = append(left, ready(id))
			default:
				left = append(left, pending(id))
			}
		}
		for id := 65; len(left) < 64; id++ {
			add(t, x, id, id)
			left = append(left, pending(id))
		}
		for range 3 {
			wantHolds(t, "with gaps", x, 64, left...)
		}
		want(t, "Pending rises", slices.IsSorted(x.Pending()), true)
		want(t, "Ready rises", slices.IsSorted(x.Ready()), true)
	}
}
