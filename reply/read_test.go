package reply_test

import (
	"testing"

	"spindle/api"
	"spindle/reply"
)

// withData gives a piece other data.
func withData(p api.Piece, data string) api.Piece {
	p.Data = []byte(data)
	return p
}

// P12.1: pieces that lie end to end over what is asked for.
func TestPiecesThatFit(t *testing.T) {
	for _, x := range []struct {
		what           string
		offset, length uint64
		o              api.Outcome
	}{
		{"data", 1000, 10, pieces(text(1000, "abcdefghij"))},
		{"a hole", 1000, 10, pieces(hole(1000, 10))},
		{"a hole with an empty list", 1000, 10, pieces(withData(hole(1000, 10), ""))},
		{"a hole, data", 1000, 10, pieces(hole(1000, 9), text(1009, "a"))},
		{"data, a hole", 1000, 10, pieces(text(1000, "a"), hole(1001, 9))},
		{"data twice", 1000, 4, pieces(text(1000, "abc"), text(1003, "d"))},
		{"two holes", 1000, 4, pieces(hole(1000, 1), hole(1001, 3))},
		{"of one byte each", 0, 4, pieces(text(0, "a"), hole(1, 1), text(2, "b"), hole(3, 1))},
		{"of one byte", 5, 1, pieces(text(5, "\x00"))},
		{"no byte", 1000, 0, api.Outcome{}},
		{"no byte, empty lists", 1000, 0, api.Outcome{Pieces: []api.Piece{}, Runs: [][]api.StatusRun{}}},
		{"no byte at the end", top, 0, api.Outcome{}},
		{"the last byte", top, 1, pieces(text(top, "z"))},
		{"to the last byte", top - 9, 10, pieces(hole(top-9, 10))},
		{"to the last byte in two", top - 9, 10, pieces(text(top-9, "abcdefghi"), hole(top, 1))},
		{"over 2^32", 1<<32 - 2, 4, pieces(hole(1<<32-2, 2), text(1<<32, "ab"))},
		{"over 2^63", 1<<63 - 2, 4, pieces(text(1<<63-2, "abc"), hole(1<<63+1, 1))},
	} {
		for _, s := range sessions() {
			for _, flags := range []uint16{0, api.FlagDF, api.FlagFua, api.FlagOne, 65535} {
				wantFits(t, x.what, call{s, flagged(ask(api.CmdRead, x.offset, x.length), flags), x.o})
			}
		}
	}
}

// P12.1: pieces that do not.
func TestPiecesThatDoNotFit(t *testing.T) {
	for _, x := range []struct {
		what           string
		offset, length uint64
		o              api.Outcome
	}{
		{"none", 1000, 10, api.Outcome{}},
		{"begins one below", 1000, 10, pieces(hole(999, 10))},
		{"begins one above", 1000, 10, pieces(hole(1001, 10))},
		{"begins one below, ends right", 1000, 10, pieces(hole(999, 11))},
		{"begins one above, ends right", 1000, 10, pieces(hole(1001, 9))},
		{"begins at 0", 1000, 10, pieces(hole(0, 10))},
		{"begins at 0 in 32 bits", 1 << 32, 10, pieces(hole(0, 10))},
		{"begins above by 2^32", 0, 10, pieces(hole(1<<32, 10))},
		{"begins at 2^64 less 1", 0, 10, pieces(hole(top, 10))},
		{"a gap", 1000, 10, pieces(hole(1000, 5), hole(1006, 5))},
		{"a gap, ends right", 1000, 10, pieces(hole(1000, 5), hole(1006, 4))},
		{"overlap", 1000, 10, pieces(hole(1000, 5), hole(1004, 5))},
		{"overlap, ends right", 1000, 10, pieces(hole(1000, 5), hole(1004, 6))},
		{"the same twice", 1000, 10, pieces(hole(1000, 5), hole(1000, 5))},
		{"the other way round", 1000, 10, pieces(hole(1005, 5), hole(1000, 5))},
		{"the second from 0 on", 1000, 10, pieces(hole(1000, 5), hole(5, 5))},
		{"one byte below", 1000, 10, pieces(hole(1000, 9))},
		{"one byte above", 1000, 10, pieces(hole(1000, 11))},
		{"one byte below in two", 1000, 10, pieces(hole(1000, 5), text(1005, "abcd"))},
		{"one byte above in two", 1000, 10, pieces(hole(1000, 5), text(1005, "abcdef"))},
		{"one behind the end", 1000, 10, pieces(hole(1000, 10), text(1010, "a"))},
		{"of no bytes one", 1000, 0, pieces(text(1000, "a"))},
		{"Len 0 alone", 1000, 10, pieces(hole(1000, 0))},
		{"Len 0 of no bytes", 1000, 0, pieces(hole(1000, 0))},
		{"Len 0 of no bytes, no hole", 1000, 0, pieces(text(1000, ""))},
		{"Len 0 first", 1000, 10, pieces(text(1000, ""), hole(1000, 10))},
		{"Len 0 amid", 1000, 10, pieces(hole(1000, 5), hole(1005, 0), hole(1005, 5))},
		{"Len 0 last", 1000, 10, pieces(hole(1000, 10), hole(1010, 0))},
		{"a hole with data", 1000, 3, pieces(withData(hole(1000, 3), "abc"))},
		{"a hole with a byte", 1000, 3, pieces(withData(hole(1000, 3), "\x00"))},
		{"a hole of Len 0 with a byte", 1000, 3, pieces(withData(hole(1000, 0), "a"), hole(1000, 3))},
		{"fewer bytes", 1000, 3, pieces(withData(text(1000, "abc"), "ab"))},
		{"more bytes", 1000, 3, pieces(withData(text(1000, "abc"), "abcd"))},
		{"no bytes", 1000, 3, pieces(withData(text(1000, "abc"), ""))},
		{"the data of the next", 1000, 4, pieces(withData(text(1000, "a"), "abc"), withData(text(1001, "bcd"), "d"))},
		{"the second fewer", 1000, 4, pieces(text(1000, "ab"), withData(text(1002, "cd"), "c"))},
		{"the last byte and one more", top, 2, pieces(hole(top, 2))},
		{"the last byte and one at 0", top, 2, pieces(hole(top, 1), hole(0, 1))},
		{"one more than to the last byte", top - 9, 11, pieces(hole(top-9, 11))},
		{"one more than to the last byte, data", top - 1, 3, pieces(text(top-1, "abc"))},
		{"one more at 0", top - 9, 11, pieces(hole(top-9, 10), hole(0, 1))},
		{"one more at the last byte", top - 9, 11, pieces(hole(top-9, 10), hole(top, 1))},
		{"one more at the offset", top - 9, 11, pieces(hole(top-9, 10), hole(top-9, 1))},
		{"the second is one too long", top - 9, 11, pieces(hole(top-9, 5), hole(top-4, 6))},
		{"to the last byte, Len 0 at 0", top - 9, 10, pieces(hole(top-9, 10), hole(0, 0))},
		{"2^32 bytes for none", 0, 0, pieces(hole(0, 1<<31), hole(1<<31, 1<<31))},
		{"2^32 bytes too many", 0, 10, pieces(hole(0, 1<<31), hole(1<<31, 1<<31), hole(1<<32, 10))},
		{"2^32 bytes too few", 0, 1<<32 + 10, pieces(hole(0, 10))},
		{"2^63 bytes too few", 0, 1<<63 + 10, pieces(hole(0, 10))},
		{"all but some", 1000, top, pieces(hole(1000, 10))},
	} {
		for _, s := range sessions() {
			for _, flags := range []uint16{0, api.FlagDF, 65535} {
				wantOutcome(t, x.what, call{s, flagged(ask(api.CmdRead, x.offset, x.length), flags), x.o})
			}
		}
	}
}

// P12.1: holes as long as they can be, which take no memory as long as they are told as holes.
func TestLongHoles(t *testing.T) {
	const most = narrow // bytes of one hole
	for _, s := range []api.Session{chunked, wide, both} {
		wantFits(t, "one", call{s, ask(api.CmdRead, 3, most), pieces(hole(3, most))})
		wantFits(t, "two", call{s, ask(api.CmdRead, 3, 2*most), pieces(hole(3, most), hole(3+most, most))})
		wantFits(t, "to the last byte", call{s, ask(api.CmdRead, top-most+1, most), pieces(hole(top-most+1, most))})
		wantOutcome(t, "one behind it", call{s, ask(api.CmdRead, top-most+2, most), pieces(hole(top-most+2, most))})
	}
	for _, s := range sessions() {
		want(t, "one", reply.Fits(s, ask(api.CmdRead, 3, most), pieces(hole(3, most))), api.OK)
		want(t, "two", reply.Fits(s, ask(api.CmdRead, 3, 2*most), pieces(hole(3, most), hole(3+most, most))), api.OK)
		wantOutcome(t, "one byte below", call{s, ask(api.CmdRead, 3, 2*most+1), pieces(hole(3, most), hole(3+most, most))})
		wantOutcome(t, "one byte above", call{s, ask(api.CmdRead, 3, 2*most-1), pieces(hole(3, most), hole(3+most, most))})
		wantOutcome(t, "what is left in 32 bits", call{s, ask(api.CmdRead, 3, most-1), pieces(hole(3, most), hole(3+most, most))})
	}
}

// P12.1: a read has no runs, be there contexts or not; a list without a run is one, too.
func TestRunsBesideARead(t *testing.T) {
	for _, s := range sessions() {
		for _, length := range []uint64{0, 4} {
			r := ask(api.CmdRead, 0, length)
			o := well(s, r)
			wantFits(t, "none", call{s, r, o})
			for _, l := range [][][]api.StatusRun{{nil}, {{}}, {list(4, 0)}, {list(0, 0)}, {nil, nil, nil}, {list(length, 0), list(length, 0), list(length, 0)}} {
				o.Runs = l
				wantOutcome(t, "runs", call{s, r, o})
				wantOutcome(t, "runs alone", call{s, r, lists(l...)})
			}
		}
	}
}
