package trace_test

import (
	"fmt"
	"testing"

	"spindle/api"
)

// commands are those that are answered, and some that there are none of.
func commands() []uint16 { return []uint16{0, 1, 3, 4, 5, 6, 7, 8, 77, max16} }

// P22.7: simple answers to each command, where chunks are agreed upon and where not, with an error and without.
func TestSimpleAnswers(t *testing.T) {
	for _, f := range []form{plainly, inChunks} {
		for _, kind := range commands() {
			for _, code := range []uint32{0, 1, 5, 22, 108, 77, max32} {
				q := asking(kind, 9, 100, 20)
				var written uint64
				if kind == 1 {
					q.Data, written = many(20), 20
				}
				steps := f.waiting(q, flush(3))
				what := fmt.Sprintf("%s, command %d, code %d", f.name, kind, code)
				tally := api.Tally{Options: f.options(), Requests: 2, Written: written}
				if f.chunks && (kind == 0 || kind == 7) {
					b := simpleBytes(code, 9)
					play(t, what, then(steps, fromServer(b[:15]), fromServer(b[15:], wrongServer()), fromServer(lay(many(20), simpleBytes(0, 3)))), []int{1, 2}, tally)
					continue
				}
				var data uint64
				if kind == 0 && code == 0 {
					data = 20
				}
				tally.Answered, tally.Read = 2, data
				if code != 0 {
					tally.Failed = 1
				}
				play(t, what, then(steps, fromServer(lay(simpleBytes(code, 9, many(int(data))...), simpleBytes(0, 3)), answer(1, code, data), answer(2, 0, 0))), nil, tally)
			}
		}
	}
}

// P22.7: the data of a read pass over, in one Pass and in many, and may look like answers; a read of no byte has none.
func TestDataOfSimpleAnswers(t *testing.T) {
	inner := lay(simpleBytes(0, 2), simpleBytes(5, 7))
	steps := then(plainly.waiting(read(1, 0, 32), flush(2), read(3, 0, 0)), fromServer(simpleBytes(0, 1), answer(1, 0, 32)))
	for _, b := range inner {
		steps = then(steps, fromServer([]byte{b}))
	}
	play(t, "in many", then(steps, fromServer(lay(simpleBytes(0, 3), simpleBytes(0, 2)), answer(3, 0, 0), answer(2, 0, 0))), nil, api.Tally{Options: 1, Requests: 3, Answered: 3, Read: 32})
	play(t, "in one", then(plainly.waiting(read(1, 0, 32), flush(2)), fromServer(lay(simpleBytes(0, 1, inner...), simpleBytes(0, 2)), answer(1, 0, 32), answer(2, 0, 0))), nil, api.Tally{Options: 1, Requests: 2, Answered: 2, Read: 32})
	play(t, "beyond what ever comes", then(plainly.waiting(read(1, 0, max32), flush(2)),
		fromServer(lay(simpleBytes(0, 1), simpleBytes(0, 2)), answer(1, 0, max32)),
		fromServer(simpleBytes(0, 2)),
	), []int{2}, api.Tally{Options: 1, Requests: 2, Answered: 1, Read: max32})
}

// P22.7: which of the magics may stand where, seen with the fourth byte.
func TestAnswerMagics(t *testing.T) {
	simple, plainChunk, wideChunk := uint32(0x67446698), uint32(0x668e33ef), uint32(0x6e8a278c)
	magics := []uint32{0, simple, plainChunk, wideChunk, 0x25609513, 0x21e41c71, max32, simple ^ 1, simple ^ 1<<31, plainChunk ^ 1, wideChunk ^ 1<<31}
	for _, f := range forms() {
		for _, magic := range magics {
			may := map[string]bool{"plain": magic == simple, "in chunks": magic == simple || magic == plainChunk, "extended": magic == wideChunk}[f.name]
			b := lay(magic)
			steps := then(f.waiting(read(1, 0, 5), flush(2)), fromServer(b[:3]))
			if may {
				steps = then(steps, fromServer(b[3:]))
			} else {
				steps = then(steps, fromServer(b[3:], wrongServer()), fromServer(f.well(2, 0)))
			}
			play(t, fmt.Sprintf("%s, magic %x", f.name, magic), steps, []int{1, 2}, api.Tally{Options: f.options(), Requests: 2})
		}
	}
}

// P22.7: heads are seen with their last byte, not earlier.
func TestAnswerHeads(t *testing.T) {
	heads := map[string][][]byte{
		"plain":     {simpleBytes(0, 77)},
		"in chunks": {simpleBytes(0, 77), inChunks.chunk(1, 0, 77, 0, 0)},
		"extended":  {extended.chunk(1, 0, 77, 0, 0)},
	}
	for _, f := range forms() {
		for _, b := range heads[f.name] {
			for n := range b {
				x := newTap(t, fmt.Sprintf("%s, %d bytes", f.name, n))
				for _, s := range f.waiting(flush(1)) {
					x.pass(s.server, s.b)
				}
				wantRecords(t, x.what, x.pass(true, b[:n]), nil)
				if n == len(b)-1 {
					wantRecords(t, x.what, x.pass(true, b[n:]), []api.Record{wrongServer()}) // a cookie of nobody
				}
			}
		}
	}
}

// P22.7: cookies of nobody: never asked, asked and answered, asked by a DISC.
func TestCookiesOfNobody(t *testing.T) {
	for _, f := range forms() {
		steps := then(f.waiting(flush(1), flush(2)),
			fromServer(f.well(2, 0), f.wellDone(2)),
			fromClient(f.request(asking(2, 3, 0, 0)), request(0, asking(2, 3, 0, 0), 0)))
		for _, cookie := range []uint64{0, 2, 3, 9, 1 << 63, max64} {
			for _, b := range [][]byte{f.well(cookie, 0), f.refused(cookie, 0)} {
				play(t, fmt.Sprintf("%s, cookie %d", f.name, cookie), then(steps, fromServer(b, wrongServer()), fromServer(f.well(1, 0))), []int{1}, api.Tally{Options: f.options(), Requests: 2, Answered: 1})
			}
		}
	}
}

// P22.7: answers in another order than asked, each told with the number of its request.
func TestAnswersInAnyOrder(t *testing.T) {
	for _, f := range forms() {
		steps := f.waiting(flush(10), flush(20), flush(30), flush(40))
		var said []byte
		var told []api.Record
		for _, n := range []int{3, 1, 4, 2} {
			said = append(said, f.well(uint64(10*n), 0)...)
			told = append(told, f.wellDone(n))
		}
		play(t, f.name, then(steps, fromServer(said, told...)), nil, api.Tally{Options: f.options(), Requests: 4, Answered: 4})
	}
}

// A shape is what a type of chunk must be: at which commands, with how many bytes at least and at most.
type shape struct {
	kind        uint16
	read        bool // of CmdRead alone
	status      bool // of CmdStatus alone
	least, most int  // -1: however many
}

func shapes(f form) []shape {
	out := []shape{
		{kind: 0, most: 0},
		{kind: 1, read: true, least: 9, most: -1},
		{kind: 2, read: true, least: 12, most: 12},
		{kind: 32769, least: 6, most: -1},
		{kind: 32770, least: 14, most: -1},
	}
	if f.extended {
		return append(out, shape{kind: 6, status: true, least: 24, most: -1})
	}
	return append(out, shape{kind: 5, status: true, least: 12, most: -1})
}

// P22.7: each type of chunk at each command, with as many bytes as it may have, one fewer, one more.
func TestChunks(t *testing.T) {
	for _, f := range []form{inChunks, extended} {
		for _, s := range shapes(f) {
			for _, kind := range commands() {
				for _, n := range []int{0, s.least - 1, s.least, s.least + 1, s.least + 50} {
					for _, flags := range []uint16{0, 1} {
						if n >= 0 {
							playChunk(t, f, s, kind, n, flags)
						}
					}
				}
			}
		}
	}
}

// playChunk lets a chunk be said to a command, and looks that it is told, or wrong.
func playChunk(t *testing.T, f form, s shape, command uint16, n int, flags uint16) {
	t.Helper()
	q := asking(command, 9, 100, 20)
	var written uint64
	if command == 1 {
		q = paid(q, many(20)...)
		written = 20
	}
	what := fmt.Sprintf("%s, type %d with %d bytes and flags %d at command %d", f.name, s.kind, n, flags, command)
	steps := f.waiting(q, flush(3))
	from := len(steps)
	if command != 0 && command != 3 && command != 7 {
		from += 3 // of these each place at which the steps could be cut is not looked at
	}
	tally := api.Tally{Options: f.options(), Requests: 2, Written: written}
	b := f.chunk(flags, s.kind, 9, 100, n)
	may := n >= s.least && (s.most < 0 || n <= s.most) && (!s.read || command == 0) && (!s.status || command == 7) && (s.kind != 0 || flags == 1)
	if !may {
		head := len(b) - n
		playFrom(t, what, from, then(steps, fromServer(b[:head-1]), fromServer(b[head-1:], wrongServer()), fromServer(f.well(3, 0))), []int{1, 2}, tally)
		return
	}
	told := chunk(1, uint32(s.kind), uint64(n))
	open := []int{1}
	tally.Answered = 1
	if s.kind == 1 {
		tally.Read = uint64(n) - 8
	}
	if flags == 1 {
		told, open, tally.Answered = last(told), nil, 2
		if s.kind >= 32769 {
			tally.Failed = 1
		}
	}
	playFrom(t, what, from, then(steps, fromServer(lay(b, f.well(3, 0)), told, f.wellDone(2))), open, tally)
}

// P22.7: types of chunks that there are none of, or that the other form has.
func TestUnknownChunks(t *testing.T) {
	for _, f := range []form{inChunks, extended} {
		others := []uint16{3, 4, 7, 8, 77, 1 << 15, 32771, max16}
		if f.extended {
			others = append(others, 5)
		} else {
			others = append(others, 6)
		}
		for _, kind := range others {
			for _, command := range []uint16{0, 3, 7} {
				for _, flags := range []uint16{0, 1} {
					for _, n := range []int{0, 12, 24, 60} {
						q := asking(command, 9, 100, 20)
						play(t, fmt.Sprintf("%s, type %d at command %d", f.name, kind, command), then(f.waiting(q), fromServer(f.chunk(flags, kind, 9, 100, n), wrongServer())), []int{1}, api.Tally{Options: f.options(), Requests: 1})
					}
				}
			}
		}
	}
}

// P22.7: flags beside ChunkDone, each bit, with it and without.
func TestChunkFlags(t *testing.T) {
	for _, f := range []form{inChunks, extended} {
		for bit := 1; bit < 16; bit++ {
			for _, flags := range []uint16{1 << bit, 1 | 1<<bit} {
				for _, kind := range []uint16{0, 1, 32769} {
					n := map[uint16]int{0: 0, 1: 9, 32769: 6}[kind]
					play(t, fmt.Sprintf("%s, flags %d", f.name, flags), then(f.waiting(read(9, 0, 20)), fromServer(f.chunk(flags, kind, 9, 0, n), wrongServer())), []int{1}, api.Tally{Options: f.options(), Requests: 1})
				}
			}
		}
	}
}

// P22.7: the Off of an extended chunk is the request's Offset, of each type and at each chunk.
func TestChunkOffsets(t *testing.T) {
	f := extended
	for _, offset := range []uint64{0, 100, 1 << 63, max64} {
		q := read(9, offset, 20)
		for _, off := range []uint64{0, 1, 99, 100, 101, 1 << 63, max64 - 1, max64} {
			for _, s := range []shape{{kind: 0}, {kind: 1, least: 9}, {kind: 2, least: 12}, {kind: 32769, least: 6}, {kind: 32770, least: 14}} {
				told := []api.Record{wrongServer()}
				tally := api.Tally{Options: 2, Requests: 1}
				open := []int{1}
				if off == offset {
					told, open = []api.Record{last(chunk(1, uint32(s.kind), uint64(s.least)))}, nil
					tally.Answered = 1
					if s.kind == 1 {
						tally.Read = 1
					}
					if s.kind >= 32769 {
						tally.Failed = 1
					}
				}
				play(t, fmt.Sprintf("offset %d, off %d, type %d", offset, off, s.kind), then(f.waiting(q), fromServer(f.chunk(1, s.kind, 9, off, s.least), told...)), open, tally)
			}
		}
	}
	play(t, "the second chunk", then(f.waiting(read(9, 100, 20)), fromServer(lay(f.chunk(0, 1, 9, 100, 18), f.chunk(1, 1, 9, 110, 18)), chunk(1, 1, 18), wrongServer())), []int{1}, api.Tally{Options: 2, Requests: 1, Read: 10})
}

// P22.7: chunks of several requests come in turns; what is told of one is nothing to another.
func TestChunksInTurns(t *testing.T) {
	for _, f := range []form{inChunks, extended} {
		k := f.statusKind()
		play(t, f.name, then(f.waiting(read(1, 5, 100), read(2, 6, 100), asking(7, 3, 7, 100), flush(4)), fromServer(lay(
			f.chunk(0, 1, 1, 5, 20), f.chunk(0, 2, 2, 6, 12), f.chunk(0, k, 3, 7, 28), f.chunk(0, 1, 2, 6, 9), f.chunk(1, 2, 1, 5, 12),
			f.chunk(0, 32770, 3, 7, 14), f.chunk(1, 0, 4, 0, 0), f.chunk(0, 32769, 2, 6, 6), f.chunk(1, k, 3, 7, 44), f.chunk(1, 0, 2, 6, 0)),
			chunk(1, 1, 20), chunk(2, 2, 12), chunk(3, uint32(k), 28), chunk(2, 1, 9), last(chunk(1, 2, 12)),
			chunk(3, 32770, 14), last(chunk(4, 0, 0)), chunk(2, 32769, 6), last(chunk(3, uint32(k), 44)), last(chunk(2, 0, 0)),
		)), nil, api.Tally{Options: 2, Requests: 4, Answered: 4, Failed: 2, Read: 13})
	}
}

// P22.7: data of chunks beyond what ever comes; the greatest lengths that a head can say.
func TestLongChunks(t *testing.T) {
	for _, f := range []form{inChunks, extended} {
		greatest := uint64(max32)
		if f.extended {
			greatest = max64
		}
		for _, size := range []uint64{1 << 31, greatest} {
			for _, kind := range []uint16{1, 32769} {
				var count uint64
				if kind == 1 {
					count = size - 8
				}
				play(t, f.name, then(f.waiting(read(1, 0, 20), flush(2)),
					fromServer(lay(f.chunkHead(0, kind, 1, 0, size), f.well(2, 0)), chunk(1, uint32(kind), size)),
					fromServer(f.well(2, 0)),
				), []int{1, 2}, api.Tally{Options: 2, Requests: 2, Read: count})
			}
		}
		play(t, f.name+": a hole", then(f.waiting(read(1, 0, 20)), fromServer(f.chunkHead(0, 2, 1, 0, greatest), wrongServer())), []int{1}, api.Tally{Options: 2, Requests: 1})
		play(t, f.name+": none", then(f.waiting(read(1, 0, 20)), fromServer(f.chunkHead(1, 0, 1, 0, 1<<31), wrongServer())), []int{1}, api.Tally{Options: 2, Requests: 1})
	}
}

// P22.7: what is simple and what comes in chunks may belong to one request, where the form allows it.
func TestSimpleBehindChunks(t *testing.T) {
	f := inChunks
	play(t, "an error, and a simple answer", then(f.waiting(flush(1)), fromServer(lay(f.chunk(0, 32769, 1, 0, 6), simpleBytes(0, 1)), chunk(1, 32769, 6), answer(1, 0, 0))), nil, api.Tally{Options: 2, Requests: 1, Answered: 1, Failed: 1})
	play(t, "a chunk behind the last", then(f.waiting(flush(1), flush(2)), fromServer(lay(simpleBytes(0, 1), f.chunk(1, 0, 1, 0, 0)), answer(1, 0, 0), wrongServer())), []int{2}, api.Tally{Options: 2, Requests: 2, Answered: 1})
}
