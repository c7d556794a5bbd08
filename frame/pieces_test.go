package frame_test

import (
	"bytes"
	"fmt"
	"slices"
	"testing"

	"spindle/api"
	"spindle/frame"
)

// A talk is a row of messages, one of each kind and more, with the cuts that take it.
type talk struct {
	row  []byte
	cuts []func(x *frame.Inbox) (any, api.Cut)
	told []any
}

func (k *talk) add(message any, b []byte, cut func(x *frame.Inbox) (any, api.Cut)) {
	k.row, k.told, k.cuts = join(k.row, b), append(k.told, message), append(k.cuts, cut)
}

// someTalk has every kind of message with Data and without, options that are too long, and bytes.
func someTalk() talk {
	var out talk
	for _, k := range kinds() {
		for _, s := range []sample{k.samples[0], k.samples[3]} {
			out.add(s.message, s.bytes, func(x *frame.Inbox) (any, api.Cut) { return k.cut(x, 3) })
		}
		out.add(many(5), many(5), func(x *frame.Inbox) (any, api.Cut) { return two(x.Data(5)) })
		for _, n := range []uint32{4, 40} {
			out.add(api.Option{Code: n, Len: n, Long: true}, optionBytes(n, n, many(int(n))), func(x *frame.Inbox) (any, api.Cut) { return two(x.Option(3)) })
		}
	}
	return out
}

// P9.7: the same bytes in pieces of every size, in rooms of which the least just holds the longest message.
func TestPiecesOfEverySize(t *testing.T) {
	k := someTalk()
	for _, room := range []int{134, 135, 150, 300, len(k.row)} {
		for size := 1; size <= len(k.row); size++ {
			what := fmt.Sprintf("a room of %d, pieces of %d", room, size)
			x := fresh(t, room)
			next := 0
			for at := 0; at < len(k.row); {
				at = pour(t, what, x, k.row, at, size)
				for next < len(k.cuts) {
					m, c := k.cuts[next](x)
					if c == api.CutMore {
						break
					}
					wantCut(t, fmt.Sprintf("%s, message %d", what, next), m, c, k.told[next], api.CutDone)
					next++
				}
				if t.Failed() {
					return
				}
			}
			want(t, what+": messages", next, len(k.cuts))
			wantHolds(t, what, x, room, nil)
		}
	}
}

// P9.7: two inboxes that are fed the same bytes between the same cuts, each in its own pieces, answer the same and hold the same.
func TestPiecesThrown(t *testing.T) {
	for seed := range 600 {
		d := dice(seed + 77)
		room := pick(&d, 1, 16, 20, 33, 134, 500, 4000)
		x, y, p := fresh(t, room), fresh(t, room), &plain{room: room} // by the third the cuts are thrown
		row := throwRow(&d, 15)
		for range 60 {
			part := row[:min(len(row), pick(&d, 0, 1, d.below(40), d.below(600)))]
			taken := feedInPieces(&d, x, part)
			want(t, "as many bytes are taken", feedInPieces(&d, y, part), taken)
			p.feed(row[:taken])
			row = row[taken:]
			c := throwCall(&d, p.held)
			p.cut(c)
			m, cut := c.of(x)
			n, other := c.of(y)
			wantCut(t, fmt.Sprintf("seed %d: %+v", seed, c), n, other, m, cut)
			wantStands(t, "the other", y, room, x.Held())
		}
		held, cut := x.Data(x.Held())
		other, otherCut := y.Data(y.Held())
		wantCut(t, fmt.Sprintf("seed %d: what is held", seed), other, otherCut, held, cut)
		if t.Failed() {
			return
		}
	}
}

// feedInPieces feeds in thrown pieces, until all is taken or there is no room.
func feedInPieces(d *dice, x *frame.Inbox, b []byte) int {
	taken := 0
	for taken < len(b) {
		piece := b[taken:min(len(b), taken+1+d.below(pick(d, 1, 5, 400)))]
		n := x.Feed(piece)
		taken += n
		if n < len(piece) {
			break
		}
	}
	return taken
}

// P9.7: what a cut answers to each beginning of a row of bytes: CutMore, and then one answer for good, whatever comes behind.
func TestWhateverComesBehind(t *testing.T) {
	for _, k := range kinds() {
		for i, s := range k.samples {
			wrong, wrongEnd := slices.Clone(s.bytes), slices.Clone(s.bytes)
			wrong[0] ^= 1
			wrongEnd[k.head-1]++
			for _, most := range []uint32{0, 2, 255, max32} {
				for _, row := range [][]byte{s.bytes, wrong, wrongEnd, wrong[:k.head]} {
					wantSettled(t, fmt.Sprintf("%s %d, most %d", k.name, i, most), k, row, most)
				}
			}
		}
	}
}

func wantSettled(t *testing.T, what string, k kind, row []byte, most uint32) {
	t.Helper()
	settled := ""
	for n := range len(row) + 1 {
		m, c := k.cut(fed(t, row[:n]), most)
		now := fmt.Sprintf("%+v %d", m, c)
		if settled != "" && now != settled {
			t.Errorf("%s: %d bytes: %s, fewer: %s", what, n, now, settled)
			return
		}
		if c == api.CutMore {
			continue
		}
		for _, tail := range [][]byte{{0}, many(3), bytes.Repeat([]byte{0xff}, 40)} {
			if m, c := k.cut(fed(t, join(row[:n], tail)), most); settled == "" && fmt.Sprintf("%+v %d", m, c) != now {
				t.Errorf("%s: %d bytes: %s, with others behind: %+v %d", what, n, now, m, c)
				return
			}
		}
		settled = now
	}
}
