package frame_test

import (
	"fmt"
	"math"
	"testing"

	"spindle/api"
)

// P9.6: numbers below 0, 0, up to all that is held, and above.
func TestData(t *testing.T) {
	const room = 20
	for held := range room + 1 {
		for _, n := range []int{math.MinInt, math.MinInt32, -2, -1, 0, 1, held - 1, held, held + 1, room, room + 1, math.MaxInt32, math.MaxInt} {
			x := fresh(t, room)
			x.Feed(many(held))
			what := fmt.Sprintf("%d are held, Data(%d)", held, n)
			b, c := x.Data(n)
			switch {
			case n < 0:
				wantCut(t, what, b, c, []byte(nil), api.CutBad)
				n = 0
			case n > held:
				wantCut(t, what, b, c, []byte(nil), api.CutMore)
				n = 0
			default:
				wantCut(t, what, b, c, many(held)[:n], api.CutDone)
			}
			wantHolds(t, what, x, room, many(held)[n:])
		}
	}
}

// P9.6: Data of none cuts nothing, however often it is asked.
func TestDataOfNone(t *testing.T) {
	x := fresh(t, 5)
	for _, held := range []int{0, 3} {
		x.Feed(many(held))
		for range 3 {
			b, c := x.Data(0)
			want(t, "Data(0)", c, api.CutDone)
			want(t, "Data(0): bytes", len(b), 0)
			wantStands(t, "Data(0)", x, 5, held)
		}
	}
}

// P9.6: piece by piece, ahead of and behind what comes.
func TestDataInOrder(t *testing.T) {
	const room = 100
	row := many(5000)
	for _, size := range []int{1, 2, 3, 7, 50, 99, 100} {
		what := fmt.Sprintf("pieces of %d", size)
		x := fresh(t, room)
		var got []byte
		for at := 0; at < len(row); {
			at = pour(t, what, x, row, at, len(row))
			b, c := x.Data(min(size, x.Held()))
			want(t, what, c, api.CutDone)
			got = append(got, b...)
			want(t, what+": Held", x.Held(), at-len(got))
		}
		wantHolds(t, what, x, room, row[len(got):])
		wantBytes(t, what, got, row[:len(got)])
	}
}

// P9.6: of bytes that are to be passed over even a number below 0 is CutMore.
func TestDataAheadOfBytesToPassOver(t *testing.T) {
	x := fed(t, optionBytes(7, 3, nil))
	x.Option(2)
	for _, n := range []int{math.MinInt, -1, 0, 1, 2, 3, 4, math.MaxInt} {
		b, c := x.Data(n)
		wantCut(t, fmt.Sprintf("Data(%d)", n), b, c, []byte(nil), api.CutMore)
	}
	x.Feed(many(3))
	b, c := x.Data(-1)
	wantCut(t, "passed over, Data(-1)", b, c, []byte(nil), api.CutBad)
	b, c = x.Data(1)
	wantCut(t, "passed over, Data(1)", b, c, []byte(nil), api.CutMore)
}
