package flight_test

import (
	"fmt"
	"testing"

	"spindle/api"
)

// P13.5, W6: a connection's requests, served in rounds: each is answered just once, by the bytes that it was done with, and within a round behind that in which it came.
func TestServedInRounds(t *testing.T) {
	const requests = 500
	for _, most := range []int{1, 2, 3, 64} {
		x := fresh(t, most)
		answered := map[int]int{}
		came := 0
		for round := 1; round <= requests+1; round++ {
			done(t, x, x.Pending()...)
			for _, id := range x.Ready() {
				wantTake(t, x, id, answerTo(id), api.OK)
				answered[id]++
				want(t, "the round of the answer", id, round-1)
			}
			if came < requests {
				came++
				add(t, x, came, came)
			}
		}
		want(t, "all came", came, requests)
		want(t, "all were answered", len(answered), requests)
		for id, times := range answered {
			want(t, fmt.Sprint("how often was ", id, " answered"), times, 1)
		}
		wantHolds(t, "none is left", x, most)
	}
}

// P13.5, W6: picked in any order, with more requests than there is room for: what a full table refuses can come again, and no request is lost, changed or answered twice.
func TestPickedInAnyOrder(t *testing.T) {
	const requests = 2000
	for _, most := range []int{1, 2, 7, 64} {
		throw := dice(most)
		x := fresh(t, most)
		asked := map[int]uint64{} // by number: the cookie of the request that got it
		told := map[uint64]int{}  // by cookie: how often it was answered
		cookie := uint64(0)
		for picks := 0; cookie < requests || x.Len() > 0; picks++ {
			if picks > 20*requests || t.Failed() {
				t.Fatalf("%d requests came, %d were answered", cookie, len(told))
			}
			switch n := throw.below(3); {
			case n == 0 && cookie < requests:
				id, e := x.Add(api.Request{Cookie: cookie})
				if e == api.ErrFull {
					want(t, "refused", x.Len(), most)
					continue
				}
				if _, twice := asked[id]; twice || e != api.OK {
					t.Fatalf("number %d of cookie %d, error %d", id, cookie, e)
				}
				asked[id] = cookie
				cookie++
			case n == 1 && len(x.Pending()) > 0:
				id := x.Pending()[throw.below(len(x.Pending()))]
				entry, _ := x.Get(id)
				want(t, "the request", entry.Req.Cookie, asked[id])
				x.Done(id, fmt.Append(nil, entry.Req.Cookie))
			case n == 2 && len(x.Ready()) > 0:
				id := x.Ready()[throw.below(len(x.Ready()))]
				wantTake(t, x, id, fmt.Append(nil, asked[id]), api.OK)
				told[asked[id]]++
			}
		}
		want(t, "answered", len(told), requests)
		for cookie, times := range told {
			want(t, fmt.Sprint("how often was cookie ", cookie, " answered"), times, 1)
		}
	}
}

// P13.5: an entry is there, with its request, whatever is done to all others.
func TestOneStays(t *testing.T) {
	x := filled(t, 3, 1)
	for id := 2; id <= 3000; id++ {
		add(t, x, id, id)
		wantGet(t, "others come", x, 1, pending(1), api.OK)
		done(t, x, id)
		wantTake(t, x, id, answerTo(id), api.OK)
	}
	done(t, x, 1)
	for id := 3001; id <= 6000; id++ {
		add(t, x, id, id)
		done(t, x, id)
		wantGet(t, "others come and go", x, 1, ready(1), api.OK)
		wantTake(t, x, id, answerTo(id), api.OK)
	}
	wantHolds(t, "at last", x, 3, ready(1))
	wantTake(t, x, 1, answerTo(1), api.OK)
}
