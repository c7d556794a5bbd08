package reply_test

import (
	"fmt"
	"testing"

	"spindle/api"
)

// codes are errors of the wire, and numbers that are none.
func codes() []uint32 {
	return []uint32{api.EPerm, api.EIO, api.ENoMem, api.EInval, api.ENoSpc, api.EOverflow, api.ENotSup, api.EShutdown, 2, 1 << 31, narrow}
}

// P12.1: beside a Code that is not 0 there is nothing else, be it as the request would have it.
func TestNothingBesideAnError(t *testing.T) {
	for _, s := range sessions() {
		for _, command := range all() {
			for _, code := range codes() {
				c := call{s, ask(command, 512, 4), api.Outcome{Code: code}}
				wantFits(t, "alone", c)
				c.o.Pieces, c.o.Runs = []api.Piece{}, [][]api.StatusRun{}
				wantFits(t, "beside empty lists", c)
				for _, p := range []api.Piece{{}, hole(512, 4), text(512, "abcd"), hole(0, 0)} {
					wantOutcome(t, "beside a piece", call{s, c.r, api.Outcome{Code: code, Pieces: []api.Piece{p}}})
				}
				for _, l := range [][]api.StatusRun{nil, {}, list(4, 0), list(0, 0)} {
					wantOutcome(t, "beside a list", call{s, c.r, api.Outcome{Code: code, Runs: [][]api.StatusRun{l}}})
				}
				o := well(s, ask(api.CmdStatus, 512, 4))
				o.Code = code
				if len(s.Contexts) > 0 {
					wantOutcome(t, "beside runs", call{s, c.r, o})
				}
				o.Pieces = []api.Piece{hole(512, 4)}
				wantOutcome(t, "beside both", call{s, c.r, o})
			}
		}
	}
}

// P12.1: the byte at which an error came is one that the request asks for, whatever the command is.
func TestPlaceOfAnError(t *testing.T) {
	for _, x := range []struct {
		offset, length uint64
		right, wrong   []uint64
	}{
		{512, 1024, []uint64{512, 513, 1000, 1535}, []uint64{0, 1, 511, 1536, 1537, 4096, 1<<32 + 512, top}},
		{0, 1, []uint64{0}, []uint64{1, 2, top}},
		{0, 512, []uint64{0, 511}, []uint64{512, top}},
		{512, 0, nil, []uint64{0, 511, 512, 513, top}},
		{0, 0, nil, []uint64{0, 1, top}},
		{top, 0, nil, []uint64{0, top - 1, top}},
		{top, 1, []uint64{top}, []uint64{0, top - 1}},
		{top - 9, 10, []uint64{top - 9, top}, []uint64{top - 10, 0, 1}},
		{top - 9, 100, []uint64{top - 9, top - 1, top}, []uint64{top - 10, 0, 1, 89, 90, 91}},
		{0, top, []uint64{0, top - 1}, []uint64{top}},
		{1, top, []uint64{1, top}, []uint64{0}},
		{5, top, []uint64{5, top}, []uint64{0, 3, 4}},
		{top, top, []uint64{top}, []uint64{0, top - 3, top - 2, top - 1}},
		{1 << 63, 1 << 63, []uint64{1 << 63, top}, []uint64{0, 1<<63 - 1}},
	} {
		for _, s := range sessions() {
			for _, command := range all() {
				what := fmt.Sprintf("command %d", command)
				for _, at := range x.right {
					wantFits(t, what, call{s, ask(command, x.offset, x.length), api.Outcome{Code: 5, Placed: true, At: at}})
				}
				for _, at := range x.wrong {
					wantOutcome(t, what, call{s, ask(command, x.offset, x.length), api.Outcome{Code: 5, Placed: true, At: at}})
				}
			}
		}
	}
}

// P12.1: an error without a place has none, not even one in the range.
func TestAtOfNoPlace(t *testing.T) {
	for _, s := range sessions() {
		for _, command := range all() {
			for _, r := range []api.Request{ask(command, 0, 1024), ask(command, 512, 1024), ask(command, 0, 0), ask(command, top, top)} {
				wantFits(t, "At 0", call{s, r, api.Outcome{Code: 5}})
				for _, at := range []uint64{1, 512, 1000, 1 << 32, 1 << 63, top} {
					wantOutcome(t, "no place", call{s, r, api.Outcome{Code: 5, At: at}})
				}
			}
		}
	}
}

// P12.1: what went well has no place at which it did not.
func TestPlaceWithoutAnError(t *testing.T) {
	for _, s := range sessions() {
		for _, command := range all() {
			for _, offset := range []uint64{0, 512} {
				r := ask(command, offset, 1024)
				o := well(s, r)
				if command != api.CmdStatus || tells(s) {
					wantFits(t, "without a place", call{s, r, o})
				}
				for _, at := range []uint64{0, 1, 512, 1000, 1 << 32, top} {
					o.Placed, o.At = true, at
					wantOutcome(t, "Placed", call{s, r, o})
					if o.Placed = false; at != 0 {
						wantOutcome(t, "At", call{s, r, o})
					}
				}
			}
		}
	}
}
