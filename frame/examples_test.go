package frame_test

import (
	"testing"

	"spindle/api"
)

// The chapter's first example.
func TestExamplePieces(t *testing.T) {
	x := fresh(t, 40)
	b := optionBytes(3, 0, nil)
	want(t, "16 bytes", len(b), 16)
	for _, piece := range [][]byte{b[:1], b[1:15]} {
		want(t, "Feed", x.Feed(piece), len(piece))
		o, c := x.Option(64)
		wantCut(t, "not all", o, c, api.Option{}, api.CutMore)
	}
	want(t, "Feed", x.Feed(b[15:]), 1)
	o, c := x.Option(64)
	wantCut(t, "all", o, c, api.Option{Code: 3}, api.CutDone)
	want(t, "Held", x.Held(), 0)
}

// The second one.
func TestExampleRoom(t *testing.T) {
	x := fresh(t, 40)
	want(t, "Feed", x.Feed(many(50)), 40)
	want(t, "Room", x.Room(), 0)
	want(t, "Feed again", x.Feed(many(50)), 0)
}

// The third one.
func TestExampleLongOption(t *testing.T) {
	x := fed(t, optionBytes(7, 100, many(10)))
	o, c := x.Option(64)
	wantCut(t, "Option", o, c, api.Option{Code: 7, Len: 100, Long: true}, api.CutDone)
	want(t, "Held", x.Held(), 0)
	o, c = x.Option(64)
	wantCut(t, "Option again", o, c, api.Option{}, api.CutMore)
	want(t, "Feed", x.Feed(many(95)), 95)
	want(t, "Held", x.Held(), 5)
	b, c := x.Data(5)
	wantCut(t, "what is held", b, c, many(95)[90:], api.CutDone)
}

// The fourth one.
func TestExampleLongRequest(t *testing.T) {
	head := requestBytes(api.Request{Type: api.CmdWrite, Length: 600}, false)
	x := fed(t, head)
	want(t, "28 bytes", x.Held(), 28)
	r, c := x.Request(512, false)
	wantCut(t, "Request", r, c, api.Request{}, api.CutLong)
	want(t, "Held", x.Held(), 28)
	r, c = x.Request(512, true)
	wantCut(t, "extended", r, c, api.Request{}, api.CutMore)
	x.Feed(many(4))
	r, c = x.Request(512, true)
	wantCut(t, "extended, 32 bytes", r, c, api.Request{}, api.CutBad)
}

// The fifth one.
func TestExampleAnotherMagic(t *testing.T) {
	x := fed(t, []byte("GET "))
	q, c := x.Request(512, false)
	wantCut(t, "Request of 4 bytes", q, c, api.Request{}, api.CutMore)
	r, c := x.Reply(512, false)
	wantCut(t, "Reply of 4 bytes", r, c, api.Reply{}, api.CutBad)
	x.Feed(many(24))
	q, c = x.Request(512, false)
	wantCut(t, "Request of 28 bytes", q, c, api.Request{}, api.CutBad)
}
