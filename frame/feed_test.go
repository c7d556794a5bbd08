package frame_test

import (
	"fmt"
	"math"
	"testing"

	"spindle/api"
	"spindle/frame"
)

// P9.1: rooms that may not be.
func TestNewRefuses(t *testing.T) {
	for _, room := range []int{math.MinInt, -1 << 31, -2, -1, 0, api.MaxInbox + 1, api.MaxInbox + 2, 2 * api.MaxInbox, 1<<31 - 1, math.MaxInt} {
		x, e := frame.New(room)
		want(t, fmt.Sprintf("New(%d): the error", room), e, api.ErrRoom)
		want(t, fmt.Sprintf("New(%d): there is none", room), x == nil, true)
	}
}

// P9.1: an inbox holds nothing at first, and nothing of it is to be passed over.
func TestNew(t *testing.T) {
	for _, room := range []int{1, 2, 3, 40, 65536, api.MaxInbox - 1, api.MaxInbox} {
		x := fresh(t, room)
		what := fmt.Sprintf("New(%d)", room)
		wantStands(t, what, x, room, 0)
		b, c := x.Data(0)
		wantCut(t, what+": Data(0)", b, c, []byte(nil), api.CutDone)
		want(t, what+": Feed of a byte", x.Feed([]byte{7}), 1)
		wantHolds(t, what, x, room, []byte{7})
	}
}

// P9.1, P9.2: of every room as many bytes are taken as there are, or as there is room for.
func TestFeed(t *testing.T) {
	for _, room := range []int{1, 2, 40, 4096, api.MaxInbox} {
		for _, n := range []int{0, 1, room - 1, room, room + 1, 2*room + 5} {
			x := fresh(t, room)
			what := fmt.Sprintf("a room of %d: Feed of %d bytes", room, n)
			b := many(n)
			taken := min(n, room)
			want(t, what, x.Feed(b), taken)
			wantStands(t, what, x, room, taken)
			want(t, what+", and of none", x.Feed(nil), 0)
			want(t, what+", and of none", x.Feed([]byte{}), 0)
			want(t, what+", and of more", x.Feed(many(room+1)), room-taken)
			wantHolds(t, what, x, room, join(b[:taken], many(room-taken)))
		}
	}
}

// P9.2: what comes is held behind what came, until there is no room, and again when there is.
func TestFeedBehind(t *testing.T) {
	const room = 10
	x := fresh(t, room)
	want(t, "Feed", x.Feed([]byte("abc")), 3)
	want(t, "Feed", x.Feed([]byte("defg")), 4)
	wantStands(t, "7 bytes", x, room, 7)
	want(t, "Feed of one more than there is room for", x.Feed([]byte("hijk")), 3)
	wantStands(t, "all of the room", x, room, room)
	for _, n := range []int{0, 1, 5, 1000} {
		want(t, fmt.Sprintf("Feed of %d without room", n), x.Feed(many(n)), 0)
	}
	b, c := x.Data(4)
	wantCut(t, "Data(4)", b, c, []byte("abcd"), api.CutDone)
	wantStands(t, "4 bytes less", x, room, 6)
	want(t, "Feed again", x.Feed([]byte("klmnop")), 4)
	wantHolds(t, "what came", x, room, []byte("efghijklmn"))
	want(t, "Feed of all of the room", x.Feed([]byte("0123456789")), room)
	wantHolds(t, "what came", x, room, []byte("0123456789"))
}

// P9.2: the greatest room, a byte past it, and all of it anew.
func TestFeedGreatest(t *testing.T) {
	x := fresh(t, api.MaxInbox)
	b := many(api.MaxInbox + 1)
	want(t, "one more than there is room for", x.Feed(b), api.MaxInbox)
	wantStands(t, "full", x, api.MaxInbox, api.MaxInbox)
	first, c := x.Data(1)
	wantCut(t, "a byte", first, c, b[:1], api.CutDone)
	want(t, "room for one", x.Feed(b[api.MaxInbox:]), 1)
	want(t, "room for none", x.Feed(b), 0)
	wantHolds(t, "the greatest room", x, api.MaxInbox, b[1:])
}

// P9.2: Held and Room only tell.
func TestHeldAndRoomOnlyTell(t *testing.T) {
	x := fresh(t, 9)
	x.Feed([]byte("abcde"))
	for range 5 {
		wantStands(t, "asked again", x, 9, 5)
	}
	wantHolds(t, "asked", x, 9, []byte("abcde"))
}
