package frame_test

import (
	"fmt"
	"math"
	"slices"
	"testing"

	"spindle/api"
	"spindle/frame"
)

// P9.3, P9.5: every message is cut off the front, whatever stands behind, which is held still.
func TestCutDone(t *testing.T) {
	for _, k := range kinds() {
		for i, s := range k.samples {
			length := len(s.bytes) - k.head
			for _, tail := range behind() {
				for _, most := range []uint32{uint32(length), uint32(length) + 1, max32} {
					x := fed(t, join(s.bytes, tail))
					what := fmt.Sprintf("%s %d, most %d, %d bytes behind", k.name, i, most, len(tail))
					m, c := k.cut(x, most)
					wantCut(t, what, m, c, s.message, api.CutDone)
					wantHolds(t, what, x, plenty, tail)
				}
			}
		}
	}
}

// P9.3: an inbox that is full to its last byte with a message has room for as much again behind the cut.
func TestCutDoneOfAFullInbox(t *testing.T) {
	for _, k := range kinds() {
		for i, s := range k.samples {
			room := len(s.bytes)
			x := fresh(t, room)
			what := fmt.Sprintf("%s %d in a room of %d", k.name, i, room)
			for range 3 {
				want(t, what, x.Feed(join(s.bytes, many(5))), room)
				m, c := k.cut(x, max32)
				wantCut(t, what, m, c, s.message, api.CutDone)
				wantStands(t, what, x, room, 0)
			}
		}
	}
}

// P9.3: one message behind the other, of all kinds.
func TestCutsInOrder(t *testing.T) {
	var row []byte
	for _, k := range kinds() {
		for _, s := range k.samples {
			row = join(row, s.bytes)
		}
	}
	x := fed(t, row)
	for _, k := range kinds() {
		for i, s := range k.samples {
			what := fmt.Sprintf("%s %d", k.name, i)
			m, c := k.cut(x, uint32(len(s.bytes)))
			wantCut(t, what, m, c, s.message, api.CutDone)
			row = row[len(s.bytes):]
			wantStands(t, what, x, plenty, len(row))
		}
	}
	wantStands(t, "all are cut", x, plenty, 0)
}

// P9.3, P9.5: of every beginning of a message nothing is cut and nothing changes; with the rest of it, it is.
func TestCutMore(t *testing.T) {
	for _, k := range kinds() {
		for i, s := range k.samples {
			for n := range s.bytes {
				what := fmt.Sprintf("%s %d of %d bytes", k.name, i, n)
				x := fed(t, s.bytes[:n])
				for range 2 {
					m, c := k.cut(x, max32)
					wantCut(t, what, m, c, k.zero, api.CutMore)
					wantStands(t, what, x, plenty, n)
				}
				x.Feed(join(s.bytes[n:], []byte("behind")))
				m, c := k.cut(x, max32)
				wantCut(t, what+", then the rest", m, c, s.message, api.CutDone)
				wantHolds(t, what+", then the rest", x, plenty, []byte("behind"))
			}
		}
	}
}

// P9.3: a message that is longer than the room never comes whole, and is held as far as there is room.
func TestCutMoreWithoutRoom(t *testing.T) {
	for _, k := range kinds() {
		s := k.samples[len(k.samples)-1]
		room := len(s.bytes) - 1
		x := fresh(t, room)
		want(t, k.name, x.Feed(s.bytes), room)
		m, c := k.cut(x, max32)
		wantCut(t, k.name, m, c, k.zero, api.CutMore)
		wantHolds(t, k.name, x, room, s.bytes[:room])
	}
}

// P9.3, P9.5: another magic, and nothing changes: as soon as the head is there, of an answer as soon as the magic is.
func TestCutBad(t *testing.T) {
	for _, k := range kinds() {
		for _, s := range []sample{k.samples[0], k.samples[len(k.samples)-1]} {
			for i := range k.magic {
				for _, change := range []byte{1, 0x80, 0xff} {
					b := slices.Clone(s.bytes)
					b[i] ^= change
					for _, most := range []uint32{0, max32} {
						wantBad(t, fmt.Sprintf("%s with byte %d of its magic another, most %d", k.name, i, most), k, b, most)
					}
				}
			}
		}
	}
}

// wantBad looks that bytes are no message of the kind, and what of them it takes to see that.
func wantBad(t *testing.T, what string, k kind, b []byte, most uint32) {
	t.Helper()
	for _, n := range []int{0, k.seen - 1, k.seen, k.head - 1, k.head, len(b)} {
		wanted := api.CutBad
		if n < k.seen {
			wanted = api.CutMore
		}
		x := fed(t, b[:n])
		for range 2 {
			m, c := k.cut(x, most)
			wantCut(t, fmt.Sprintf("%s, %d bytes", what, n), m, c, k.zero, wanted)
		}
		wantHolds(t, what, x, plenty, b[:n])
	}
}

// P9.3: the magic of one kind is none of another, nor is it all 0.
func TestCutBadOfOthers(t *testing.T) {
	for _, k := range kinds() {
		for _, other := range kinds() {
			reply := k.name == "Reply, simple" || k.name == "Reply, a chunk"
			otherReply := other.name == "Reply, simple" || other.name == "Reply, a chunk"
			if k.magic == 0 || other.magic == 0 || k.name == other.name || reply && otherReply {
				continue
			}
			wantBad(t, k.name+" of a "+other.name, k, join(other.samples[0].bytes, make([]byte, 200)), max32)
		}
		if k.magic > 0 {
			wantBad(t, k.name+" of zeros", k, make([]byte, 200), max32)
		}
	}
}

// P9.3: one of the 124 bytes of an answer to EXPORT_NAME is not 0; behind them, and without zeroes, that is nothing.
func TestCutBadOfExportReply(t *testing.T) {
	message := api.ExportReply{Size: 0x0123456789abcdef, Flags: 0x1234}
	k := export(true)
	k.seen = k.head
	for i := range 124 {
		b := join(lay(message.Size, message.Flags), make([]byte, 130))
		b[10+i] = byte(i + 1)
		wantBad(t, fmt.Sprintf("byte %d is not 0", i), k, b, max32)
		x := fed(t, b)
		m, c := x.ExportReply(false)
		wantCut(t, fmt.Sprintf("byte %d is not 0, without zeroes", i), m, c, message, api.CutDone)
		wantHolds(t, "without zeroes", x, plenty, b[10:])
	}
	b := join(lay(message.Size, message.Flags), make([]byte, 124), many(6))
	x := fed(t, b)
	m, c := x.ExportReply(true)
	wantCut(t, "other bytes behind the 124", m, c, message, api.CutDone)
	wantHolds(t, "other bytes behind the 124", x, plenty, many(6))
}

// P9.3, P9.5: a length above most, and nothing changes, so that it is cut when more may be. (Options: P9.4.)
func TestCutLong(t *testing.T) {
	for _, k := range kinds() {
		for i, s := range k.samples {
			length := len(s.bytes) - k.head
			if !k.measured || k.name == "Option" || length == 0 {
				continue
			}
			for _, most := range []int{0, length / 2, length - 1} {
				for _, n := range []int{k.head - 1, k.head, k.head + 1, len(s.bytes) - 1, len(s.bytes)} {
					what := fmt.Sprintf("%s %d of %d bytes, most %d", k.name, i, n, most)
					wanted := api.CutLong
					if n < k.head {
						wanted = api.CutMore
					}
					x := fed(t, s.bytes[:n])
					for range 2 {
						m, c := k.cut(x, uint32(most))
						wantCut(t, what, m, c, k.zero, wanted)
						wantStands(t, what, x, plenty, n)
					}
					x.Feed(s.bytes[n:])
					m, c := k.cut(x, uint32(length))
					wantCut(t, what+", then all and most its length", m, c, s.message, api.CutDone)
					wantStands(t, what+", then all and most its length", x, plenty, 0)
				}
			}
		}
	}
}

// P9.3, P9.5: lengths that nobody has bytes for.
func TestCutLongOfHugeLengths(t *testing.T) {
	for _, length := range []uint64{1 << 31, max32, 1 << 32, 1<<32 + 3, 1 << 63, max64} {
		wide := requestBytes(api.Request{Flags: api.FlagPayload, Type: 7, Length: length}, true)
		chunk64 := lay(uint32(0x6e8a278c), uint16(1), uint16(1), uint64(9), uint64(8), length)
		for _, most := range []uint32{0, 3, 1<<31 - 1, max32} {
			wanted := api.CutLong
			if length <= uint64(most) {
				wanted = api.CutMore
			}
			x := fed(t, join(wide, many(3)))
			q, c := x.Request(most, true)
			wantCut(t, fmt.Sprintf("a request of Length %d, most %d", length, most), q, c, api.Request{}, wanted)
			wantHolds(t, "a request", x, plenty, join(wide, many(3)))
			x = fed(t, join(chunk64, many(3)))
			r, c := x.Reply(most, true)
			wantCut(t, fmt.Sprintf("a chunk of %d bytes, most %d", length, most), r, c, api.Reply{}, wanted)
			wantHolds(t, "a chunk", x, plenty, join(chunk64, many(3)))
		}
	}
}

// P9.3: what has no payload has nothing to be too long.
func TestRequestsWithoutPayload(t *testing.T) {
	for _, extended := range []bool{false, true} {
		for _, s := range bare(extended) {
			for _, most := range []uint32{0, 1, max32} {
				x := fed(t, join(s.bytes, many(40)))
				what := "Request" + suffix(extended, "extended") + " of " + short(s.message)
				r, c := x.Request(most, extended)
				wantCut(t, what, r, c, s.message, api.CutDone)
				wantHolds(t, what, x, plenty, many(40))
			}
		}
	}
}

// P9.3: a cut that is not done leaves all as it is, for the one that is.
func TestCutsThatChangeNothing(t *testing.T) {
	for _, k := range kinds() {
		s := k.samples[len(k.samples)-1]
		x := fed(t, s.bytes)
		for _, other := range kinds() {
			if _, c := other.cut(fed(t, s.bytes), 0); c == api.CutDone {
				continue
			}
			what := other.name + " of a " + k.name
			m, c := other.cut(x, 0)
			want(t, what+" is not done", c != api.CutDone, true)
			wantCut(t, what, m, c, other.zero, c)
			wantStands(t, what, x, plenty, len(s.bytes))
		}
		m, c := k.cut(x, max32)
		wantCut(t, k.name+" behind the others", m, c, s.message, api.CutDone)
	}
}

// everyCut asks for all cuts, Data of several numbers among them, one behind the other.
func everyCut(x *frame.Inbox, most uint32, ask func(name string, m any, c api.Cut, zero any)) {
	for _, k := range kinds() {
		m, c := k.cut(x, most)
		ask(k.name, m, c, k.zero)
	}
	for _, n := range []int{math.MinInt, -1, 0, 1, 5, math.MaxInt} {
		m, c := x.Data(n)
		ask(fmt.Sprintf("Data(%d)", n), m, c, []byte(nil))
	}
}
