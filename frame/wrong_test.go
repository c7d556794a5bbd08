package frame_test

import (
	"testing"

	"spindle/api"
	"spindle/frame"
)

// R1: an inbox that is nil, or that New did not give, takes nothing, holds nothing and cuts nothing.
func TestNilAndZero(t *testing.T) {
	var zero frame.Inbox
	for name, x := range map[string]*frame.Inbox{"nil": nil, "zero": &zero, "new": new(frame.Inbox)} {
		for range 2 {
			for _, b := range [][]byte{nil, {}, {1}, optionBytes(3, 0, nil), many(5000)} {
				want(t, name+": Feed", x.Feed(b), 0)
			}
			wantStands(t, name, x, 0, 0)
			for _, most := range []uint32{0, 1, max32} {
				everyCut(x, most, func(cut string, m any, c api.Cut, none any) {
					wantCut(t, name+": "+cut, m, c, none, api.CutMore)
				})
			}
		}
	}
	want(t, "a zero inbox is not changed", same(zero, frame.Inbox{}), true)
}

// R1, P9.3: cuts of an inbox that holds nothing.
func TestCutsOfNothing(t *testing.T) {
	x := fresh(t, 40)
	for _, k := range kinds() {
		for _, most := range []uint32{0, max32} {
			m, c := k.cut(x, most)
			wantCut(t, k.name, m, c, k.zero, api.CutMore)
		}
	}
	wantStands(t, "nothing was there", x, 40, 0)
}

// R5, R9: two inboxes that are fed from the same memory and cut by turns know nothing of one another.
func TestTwoInboxes(t *testing.T) {
	long := optionBytes(7, 100, many(30))
	list := optionBytes(3, 2, []byte("ab"))
	x, y := fresh(t, 60), fresh(t, 40)
	x.Feed(long)
	y.Feed(list)
	o, c := x.Option(64)
	wantCut(t, "one", o, c, api.Option{Code: 7, Len: 100, Long: true}, api.CutDone)
	wantStands(t, "the other", y, 40, 18)
	o, c = y.Option(64)
	wantCut(t, "the other", o, c, api.Option{Code: 3, Len: 2, Data: []byte("ab")}, api.CutDone)
	wantPasses(t, "one", x, 60)
	want(t, "one: Feed", x.Feed(list), 18)
	want(t, "the other: Feed", y.Feed(list), 18)
	wantStands(t, "one", x, 60, 0)
	wantStands(t, "the other", y, 40, 18)
	want(t, "one: Feed", x.Feed(make([]byte, 52)), 52)
	want(t, "one: Feed", x.Feed(many(70)), 60)
	o, c = y.Option(2)
	wantCut(t, "the other", o, c, api.Option{Code: 3, Len: 2, Data: []byte("ab")}, api.CutDone)
	want(t, "the other: Feed", y.Feed([]byte("yy")), 2)
	wantHolds(t, "one", x, 60, many(60))
	wantHolds(t, "the other", y, 40, []byte("yy"))
}
