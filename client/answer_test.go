package client_test

import (
	"fmt"
	"testing"

	"spindle/api"
	"spindle/client"
)

func commands() []uint16 { return []uint16{0, 1, 3, 4, 5, 6, 7, 8, 257, max16} }

// some is a request of a command, with some bytes where it may have them.
func some(kind uint16) api.Request {
	q := asking(kind, 16, 4)
	if kind == api.CmdWrite {
		q.Data = []byte("data")
	}
	return q
}

// P16.6: a simple answer to every command: with Code 0 a read has its data, every other one none; where chunks are agreed upon a read and a status may not have one.
func TestSimple(t *testing.T) {
	for _, f := range []form{plainly, inChunks} {
		for _, kind := range commands() {
			for _, code := range []uint32{0, 1, 5, 22, 95, 1 << 31, max32} {
				what := fmt.Sprintf("%s: command %d, code %d", f.name, kind, code)
				c := waiting(t, f, some(kind))
				switch {
				case f.chunks && (kind == 0 || kind == 7):
					wantBreak(t, what, c, simpleBytes(code, 1))
					continue
				case kind == 0 && code == 0:
					wantEvents(t, what, c.In(simpleBytes(0, 1, many(4)...)), done(1, 0, many(4)...))
				default:
					wantEvents(t, what, c.In(simpleBytes(code, 1)), done(1, code))
				}
				want(t, what+": Phase", c.Phase(), api.ClientWork)
				wantOutstanding(t, what, c)
				wantBreak(t, what+", again", c, simpleBytes(code, 1))
			}
		}
	}
	wantBreak(t, "a simple one where headers are extended", waiting(t, extended, some(1)), simpleBytes(0, 1))
}

// P16.6: the data of a read belong to its answer: it is outstanding until they have all come, whatever they are.
func TestSimpleReadComes(t *testing.T) {
	c := working(t, plainly)
	first, second := read(0, 40), read(9, 3)
	mustRequest(t, c, first)
	mustRequest(t, c, second)
	data := lay(simpleBytes(0, 2), simpleBytes(5, 1), many(8))
	wantEvents(t, "the head", c.In(simpleBytes(0, 1)))
	for i := range 39 {
		wantEvents(t, "not all", c.In(data[i:i+1]))
		wantOutstanding(t, "not all", c, outstanding(1, first), outstanding(2, second))
	}
	third := read(7, 1)
	want(t, "asked in between", mustRequest(t, c, third), 3)
	wantEvents(t, "the last byte, and another answer", c.In(lay(data[39:], simpleBytes(0, 3, 9), simpleBytes(7, 2))), done(1, 0, data...), done(3, 0, 9), done(2, 7))
	wantOutstanding(t, "all", c)
}

// P16.6: a read of no byte, of one, and of as many as may be.
func TestSimpleReads(t *testing.T) {
	for _, n := range []int{0, 1, 2, 511, 512, 65536, api.MaxPayload - 1, api.MaxPayload} {
		c := waiting(t, plainly, read(1<<40, uint64(n)))
		wantEvents(t, fmt.Sprint(n, " bytes, and another answer"), c.In(lay(simpleBytes(0, 1, many(n)...), simpleBytes(0, 2))), done(1, 0, many(n)...), api.Event{Kind: api.EvBroken})
	}
	c := waiting(t, plainly, read(0, 0))
	wantEvents(t, "no byte", c.In(simpleBytes(0, 1)), done(1, 0))
}

// P16.6: answers in any order, each with its own cookie and code; one of none breaks it.
func TestAnyOrder(t *testing.T) {
	d := dice(3)
	for range 100 {
		c := working(t, plainly)
		var left []api.Outstanding
		for i := range uint64(20) {
			q := read(i, i%4)
			left = append(left, outstanding(mustRequest(t, c, q), q))
		}
		for len(left) > 0 {
			i := d.below(len(left))
			o := left[i]
			left = append(left[:i], left[i+1:]...)
			if d.bool() {
				wantEvents(t, "an error", c.In(simpleBytes(uint32(o.Cookie), o.Cookie)), done(o.Cookie, uint32(o.Cookie)))
			} else {
				data := of(int(o.Length), byte(o.Cookie))
				wantEvents(t, "data", c.In(simpleBytes(0, o.Cookie, data...)), done(o.Cookie, 0, data...))
			}
			wantOutstanding(t, "left", c, left...)
		}
	}
}

// P16.6: a cookie of no outstanding request: never given, given by DISC, answered already.
func TestUnknownCookies(t *testing.T) {
	for _, f := range forms() {
		for _, cookie := range []uint64{0, 2, 3, 4, 5, 1 << 32, 1<<32 + 1, 1 << 63, max64} {
			c := working(t, f)
			mustRequest(t, c, some(3))
			mustRequest(t, c, some(3))
			mustRequest(t, c, disc())
			ahead := done(2, 0)
			last := simpleBytes(0, 2)
			wrong := simpleBytes(0, cookie)
			if f.extended {
				last, wrong = f.chunk(1, 0, 2, 16), f.chunk(1, 0, cookie, 16)
			}
			wantBreak(t, fmt.Sprintf("%s: cookie %d", f.name, cookie), c, lay(last, wrong), ahead)
			if f.chunks && !f.extended {
				c := waiting(t, f, some(3))
				wantBreak(t, fmt.Sprintf("a chunk's cookie %d", cookie), c, f.chunk(1, 0, cookie, 0))
			}
		}
	}
}

// P16.6: bytes that are no answers, by their magic: as soon as that is there.
func TestAnswersThatAreNone(t *testing.T) {
	for _, f := range forms() {
		may := map[uint32]bool{0x67446698: !f.extended, 0x668e33ef: !f.extended, 0x6e8a278c: f.extended}
		for _, magic := range []uint32{0, 0x67446698, 0x668e33ef, 0x6e8a278c, 0x25609513, 0x21e41c71, 0x67446699, 0x668e33ee, 0x6e8a278d, max32} {
			what := fmt.Sprintf("%s: magic %#x", f.name, magic)
			c := waiting(t, f, some(3))
			wantEvents(t, what, c.In(lay(magic)[:3]))
			if may[magic] {
				wantEvents(t, what, c.In(lay(magic)[3:]))
				want(t, what, c.Phase(), api.ClientWork)
			} else {
				wantBreak(t, what, c, lay(magic)[3:])
			}
		}
	}
}

// P16.6: a chunk where none were agreed upon.
func TestChunksThatWereNotAgreedUpon(t *testing.T) {
	for _, kind := range commands() {
		for _, k := range []uint16{0, 1, 2, 5, 6, 32769, 32770} {
			wantBreak(t, fmt.Sprintf("command %d, chunk %d", kind, k), waiting(t, plainly, some(kind)), bodied(plainly, k, 1, 1))
		}
	}
}

// bodied is a chunk of a type, with a body that may be one of the request some(..).
func bodied(f form, kind, flags uint16, cookie uint64) []byte {
	var b []byte
	switch kind {
	case api.ChunkData:
		b = dataBody(16, many(4)...)
	case api.ChunkHole:
		b = holeBody(16, 4)
	case api.ChunkStatus, api.ChunkStatus64:
		b = statusBody(kind == api.ChunkStatus64, 1, run{4, 3})
	case api.ChunkError:
		b = errorBody(5, "no")
	case api.ChunkErrorAt:
		b = errorAtBody(5, "no", 17)
	}
	return f.chunk(flags, kind, cookie, 16, b...)
}

// P16.6: every type of chunk at every command, last or not.
func TestEveryChunkAtEveryCommand(t *testing.T) {
	for _, f := range []form{inChunks, extended, {name: "one context", chunks: true, contexts: []uint32{1}}, {name: "no context, extended", chunks: true, extended: true}} {
		for _, kind := range commands() {
			for _, k := range []uint16{0, 1, 2, 3, 4, 5, 6, 7, 257, 32768, 32769, 32770, 32771, max16} {
				for flags := range uint16(2) {
					what := fmt.Sprintf("%s: command %d, chunk %d, flags %d", f.name, kind, k, flags)
					c := waiting(t, f, some(kind))
					b := bodied(f, k, flags, 1)
					events, ok := plainlyChunk(f, kind, k, flags)
					if !ok {
						wantBreak(t, what, c, b)
						continue
					}
					wantEvents(t, what, c.In(b), events...)
					want(t, what+": Phase", c.Phase(), api.ClientWork)
					want(t, what+": outstanding", len(listed(c)), 1-int(flags))
				}
			}
		}
	}
}

// plainlyChunk is what is heard of the chunk bodied(..) to the request some(..), if it may be.
func plainlyChunk(f form, command, kind, flags uint16) ([]api.Event, bool) {
	end := done(1, 0)
	whole := command != 0 && (command != 7 || len(f.contexts) == 0)
	switch {
	case kind == 0:
		if flags == 0 || !whole {
			return nil, false
		}
	case kind == 1 && command == 0:
		end.Data = many(4)
	case kind == 2 && command == 0:
		end.Data = make([]byte, 4)
	case kind == f.statusKind() && command == 7 && len(f.contexts) > 0:
		if flags == 1 && len(f.contexts) > 1 {
			return nil, false
		}
		end.Status = []api.ContextRuns{{Context: 1, Runs: []api.StatusRun{{Len: 4, Flags: 3}}}}
	case kind == 32769 || kind == 32770:
		end.Code = 5
	default:
		return nil, false
	}
	if flags == 0 {
		return nil, true
	}
	return []api.Event{end}, true
}

// P16.6: flags beside ChunkDone.
func TestChunkFlags(t *testing.T) {
	for _, f := range []form{inChunks, extended} {
		for bit := range 16 {
			for _, flags := range []uint16{1 << bit, 1<<bit | 1} {
				c := waiting(t, f, some(0))
				b := bodied(f, 1, flags, 1)
				if flags == 1 {
					wantEvents(t, "ChunkDone", c.In(b), done(1, 0, many(4)...))
				} else {
					wantBreak(t, fmt.Sprintf("%s: flags %#x", f.name, flags), c, b)
				}
			}
		}
	}
}

// P16.6: ChunkNone with Data.
func TestChunkNoneWithData(t *testing.T) {
	for _, f := range []form{inChunks, extended} {
		for flags := range uint16(2) {
			wantBreak(t, f.name, waiting(t, f, some(3)), f.chunk(flags, 0, 1, 16, 0))
		}
	}
}

// P16.6: an extended chunk with an Off that is not the request's, of every type.
func TestChunkOff(t *testing.T) {
	for _, k := range []uint16{0, 1, 2, 6, 32769, 32770} {
		for _, off := range []uint64{0, 15, 17, 16 + 1<<32, max64} {
			command := map[uint16]uint16{0: 3, 6: 7}[k]
			b := bodied(extended, k, 1, 1)
			c := waiting(t, extended, some(command))
			wantBreak(t, fmt.Sprintf("chunk %d, Off %d", k, off), c, lay(b[:16], off, b[24:]))
		}
	}
	c := waiting(t, extended, read(max64, 1))
	wantEvents(t, "the last byte of all", c.In(extended.chunk(1, api.ChunkData, 1, max64, dataBody(max64, 8)...)), done(1, 0, 8))
}

// P16.6: how long a chunk may be: its head is enough to break it.
func TestLongChunks(t *testing.T) {
	const most = api.MaxPayload + 16
	for _, f := range []form{inChunks, extended} {
		text := 65535
		for _, n := range []uint64{most, most + 1, 1 << 31, max32, 1 << 32, max64} {
			if n > max32 && !f.extended {
				continue
			}
			c := waiting(t, f, some(0))
			b := f.chunk(1, api.ChunkError, 1, 16)
			head := lay(b[:len(b)-4], uint32(n))
			if f.extended {
				head = lay(b[:len(b)-8], n)
			}
			wantEvents(t, "not all of the head", c.In(head[:len(head)-1]))
			if n > most {
				wantBreak(t, fmt.Sprintf("%s: %d bytes", f.name, n), c, head[len(head)-1:])
				continue
			}
			wantEvents(t, "the head", c.In(head[len(head)-1:]))
			wantEvents(t, "all but a byte", c.In(make([]byte, most-1)))
			wantBreak(t, "all of it, which is no error", c, make([]byte, 1))
		}
		c := waiting(t, f, some(0))
		wantEvents(t, "a long text", c.In(f.chunk(0, api.ChunkError, 1, 16, errorBody(9, string(of(4096, 'n')))...)))
		wantBreak(t, "too long a text", c, f.chunk(1, api.ChunkError, 1, 16, errorBody(9, string(of(text, 'n')))...))
		c = waiting(t, f, read(16, api.MaxPayload))
		wantEvents(t, "the greatest read", c.In(f.chunk(1, api.ChunkData, 1, 16, dataBody(16, many(api.MaxPayload)...)...)), done(1, 0, many(api.MaxPayload)...))
		c = waiting(t, f, status(16, 1<<32-1))
		runs := make([]run, (most-4)/8)
		if f.extended {
			runs = make([]run, (most-8)/16)
		}
		for i := range runs {
			runs[i] = run{uint64(i%7 + 1), uint64(i)}
		}
		wantEvents(t, "the longest status", c.In(f.chunk(0, f.statusKind(), 1, 16, statusBody(f.extended, 7, runs...)...)))
		heard := c.In(f.chunk(1, f.statusKind(), 1, 16, statusBody(f.extended, 1, run{1, 1})...))
		want(t, "its runs", len(heard[0].Status[0].Runs), len(runs))
	}
}

// P16.6: in ClientClosing answers are heard as before.
func TestAnswersBehindDisc(t *testing.T) {
	for _, f := range forms() {
		c := working(t, f)
		mustRequest(t, c, some(3))
		mustRequest(t, c, some(0))
		c.Request(disc())
		var b []byte
		if f.extended {
			b = f.chunk(1, 0, 1, 16)
		} else {
			b = simpleBytes(0, 1)
		}
		wantEvents(t, f.name, c.In(b), done(1, 0))
		if f.chunks {
			b = bodied(f, 1, 1, 2)
		} else {
			b = simpleBytes(0, 2, many(4)...)
		}
		wantEvents(t, f.name, c.In(b), done(2, 0, many(4)...))
		want(t, "Phase", c.Phase(), api.ClientClosing)
		wantBreak(t, "all were answered", c, b)
	}
}

// P16.6: a simple answer tells its own code, whatever chunks of the request said.
func TestSimpleBehindChunks(t *testing.T) {
	for _, code := range []uint32{0, 9} {
		c := waiting(t, inChunks, some(1))
		wantEvents(t, "an error, not the last", c.In(inChunks.chunk(0, api.ChunkError, 1, 0, errorBody(5, "")...)))
		wantOutstanding(t, "an error, not the last", c, outstanding(1, some(1)))
		wantEvents(t, "a simple answer", c.In(simpleBytes(code, 1)), done(1, code))
	}
}

// stepped hears all but the last of some rows of bytes, of which nothing may be heard.
func stepped(t *testing.T, what string, c *client.Client, rows ...[]byte) []byte {
	t.Helper()
	for _, b := range rows[:len(rows)-1] {
		wantEvents(t, what+": not the last", c.In(b))
	}
	return rows[len(rows)-1]
}
