package flight_test

import (
	"fmt"
	"math"
	"testing"

	"spindle/api"
	"spindle/flight"
)

// P13.1, R2, R7: so many cannot be.
func TestNewRefused(t *testing.T) {
	for _, most := range []int{0, -1, -2, -64, -65, math.MinInt, math.MinInt32, 65, 66, 128, 1 << 16, math.MaxInt32, 1<<32 + 1, 1<<32 + 64, math.MaxInt} {
		x, e := flight.New(most)
		want(t, fmt.Sprintf("New(%d): the error", most), e, api.ErrMost)
		want(t, fmt.Sprintf("New(%d): is there a table", most), x != nil, false)
	}
}

// P13.1, R7: a table for each number that may be holds as many, and not one more.
func TestNew(t *testing.T) {
	want(t, "MaxFlight", api.MaxFlight, 64)
	for most := 1; most <= 64; most++ {
		what := fmt.Sprintf("New(%d)", most)
		x := fresh(t, most)
		wantHolds(t, what, x, most)
		add(t, x, 1, most)
		wantHolds(t, what+", full", x, most, rows(pending, 1, most)...)
		wantAdd(t, what+", full: Add", x, request(0), 0, api.ErrFull)
		wantHolds(t, what+", refused", x, most, rows(pending, 1, most)...)
	}
}
