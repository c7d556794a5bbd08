package frame_test

import (
	"fmt"
	"testing"

	"spindle/api"
)

const (
	magicSimple  = 0x67446698
	magicChunk   = 0x668e33ef
	magicChunk64 = 0x6e8a278c
)

// magics are those of answers, and others: of requests, the beginnings of those of eight bytes, and numbers that are nearly one.
func magics() []uint32 {
	return []uint32{magicSimple, magicChunk, magicChunk64, 0x25609513, 0x21e41c71, 0x4e42444d, 0x49484156, 0x0003e889, 0, max32,
		magicSimple + 1, magicChunk - 1, magicChunk64 ^ 1<<31, 0x98664467, 0xef338e66, 0x8c278a6e}
}

// headOf tells how many bytes the head has of an answer that begins with this magic: 0, if none does.
func headOf(magic uint32, extended bool) int {
	switch {
	case extended && magic == magicChunk64:
		return 32
	case !extended && magic == magicChunk:
		return 20
	case !extended && magic == magicSimple:
		return 16
	}
	return 0
}

// P9.5: short of four bytes nothing is told, whatever they are; with four each magic is one or none.
func TestReplyByItsMagic(t *testing.T) {
	for _, extended := range []bool{false, true} {
		for _, magic := range magics() {
			row := join(lay(magic), make([]byte, 40))
			for n := range 36 {
				what := fmt.Sprintf("Reply%s, magic %08x, %d bytes", suffix(extended, "extended"), magic, n)
				head := headOf(magic, extended)
				wanted, message := api.CutDone, api.Reply{Structured: magic != magicSimple}
				switch {
				case n < 4 || n < head:
					wanted, message = api.CutMore, api.Reply{}
				case head == 0:
					wanted, message = api.CutBad, api.Reply{}
				}
				x := fed(t, row[:n])
				r, c := x.Reply(0, extended)
				wantCut(t, what, r, c, message, wanted)
				if wanted == api.CutDone {
					n -= head
				}
				wantStands(t, what, x, plenty, n)
			}
		}
	}
}

// P9.5: a simple answer has no Chunk, has no length that may be above most, and its data are not cut with it.
func TestReplySimple(t *testing.T) {
	for _, most := range []uint32{0, 1, max32} {
		x := fed(t, join(lay(uint32(magicSimple), uint32(0), uint64(77)), []byte("data")))
		r, c := x.Reply(most, false)
		wantCut(t, "a simple answer", r, c, api.Reply{Simple: api.SimpleReply{Cookie: 77}}, api.CutDone)
		wantHolds(t, "a simple answer", x, plenty, []byte("data"))
	}
}

// P9.5: simple answers and chunks in any order, where headers are not extended; where they are, only extended chunks.
func TestRepliesInOrder(t *testing.T) {
	var row []byte
	var wanted []any
	for i := range 7 {
		for _, k := range []kind{simple(), chunk(false)} {
			s := k.samples[i%len(k.samples)]
			row, wanted = join(row, s.bytes), append(wanted, s.message)
		}
	}
	x := fed(t, row)
	for i, m := range wanted {
		held := x.Held()
		r, c := x.Reply(max32, true)
		wantCut(t, "extended", r, c, api.Reply{}, api.CutBad)
		want(t, "extended: Held", x.Held(), held)
		r, c = x.Reply(max32, false)
		wantCut(t, fmt.Sprint("answer ", i), r, c, m, api.CutDone)
	}
	wantStands(t, "all answers", x, plenty, 0)
}

// P9.5: a plain chunk has no Off, an extended one has.
func TestReplyOff(t *testing.T) {
	c := api.Chunk{Flags: 1, Type: 1, Cookie: 5, Off: 0x0102030405060708, Data: many(4)}
	x := fed(t, chunkBytes(c, true))
	r, cut := x.Reply(4, true)
	wantCut(t, "extended", r, cut, api.Reply{Structured: true, Chunk: c}, api.CutDone)
	x = fed(t, chunkBytes(c, false))
	r, cut = x.Reply(4, false)
	c.Off = 0
	wantCut(t, "plain", r, cut, api.Reply{Structured: true, Chunk: c}, api.CutDone)
}
