package reply_test

import (
	"slices"
	"testing"

	"spindle/api"
)

// cookie is one of which no two bytes are the same.
const cookie = 0x0102030405060708

// eachStructured goes through the sessions and commands of which the answer comes in chunks.
func eachStructured(do func(s api.Session, command uint16)) {
	for _, s := range sessions() {
		for _, command := range all() {
			if s.Extended || s.Structured && (command == 0 || command == 7) {
				do(s, command)
			}
		}
	}
}

// wantInChunks holds the chunks of an answer and its bytes: bodies are types and data, of which the last one is done.
func wantInChunks(t *testing.T, what string, c call, bodies ...api.Chunk) {
	t.Helper()
	c.r.Cookie = cookie
	var out []byte
	for i := range bodies {
		b := &bodies[i]
		b.Cookie = cookie
		if i == len(bodies)-1 {
			b.Flags = 1
		}
		if c.s.Extended {
			b.Off = c.r.Offset
			out = append(out, lay(uint32(0x6e8a278c), b.Flags, b.Type, uint64(cookie), c.r.Offset, uint64(len(b.Data)), b.Data)...)
		} else {
			out = append(out, lay(uint32(0x668e33ef), b.Flags, b.Type, uint64(cookie), uint32(len(b.Data)), b.Data)...)
		}
	}
	wantChunks(t, what, c, bodies...)
	wantBytes(t, what, c, out)
}

func body(kind uint16, parts ...any) api.Chunk { return api.Chunk{Type: kind, Data: lay(parts...)} }

// P12.4: of a read a chunk a piece, at its place.
func TestReadInChunks(t *testing.T) {
	for _, x := range []struct {
		what           string
		offset, length uint64
		o              api.Outcome
		bodies         []api.Chunk
		one            api.Chunk
	}{
		{"data", 5, 3, pieces(text(5, "abc")), []api.Chunk{body(1, uint64(5), "abc")}, body(1, uint64(5), "abc")},
		{"a hole", 5, 3, pieces(hole(5, 3)), []api.Chunk{body(2, uint64(5), uint32(3))}, body(1, uint64(5), "\x00\x00\x00")},
		{"a hole, data", 5, 3, pieces(hole(5, 2), text(7, "c")),
			[]api.Chunk{body(2, uint64(5), uint32(2)), body(1, uint64(7), "c")}, body(1, uint64(5), "\x00\x00c")},
		{"data, a hole", 0, 3, pieces(text(0, "ab"), hole(2, 1)),
			[]api.Chunk{body(1, uint64(0), "ab"), body(2, uint64(2), uint32(1))}, body(1, uint64(0), "ab\x00")},
		{"side by side", 1 << 40, 6, pieces(text(1<<40, "a"), text(1<<40+1, "bc"), hole(1<<40+3, 1), hole(1<<40+4, 2)),
			[]api.Chunk{body(1, uint64(1<<40), "a"), body(1, uint64(1<<40+1), "bc"), body(2, uint64(1<<40+3), uint32(1)), body(2, uint64(1<<40+4), uint32(2))},
			body(1, uint64(1<<40), "abc\x00\x00\x00")},
		{"to the last byte", top - 2, 3, pieces(text(top-2, "ab"), hole(top, 1)),
			[]api.Chunk{body(1, uint64(top-2), "ab"), body(2, uint64(top), uint32(1))}, body(1, uint64(top-2), "ab\x00")},
		{"data of bytes 0", 9, 2, pieces(text(9, "\x00\x00")), []api.Chunk{body(1, uint64(9), "\x00\x00")}, body(1, uint64(9), "\x00\x00")},
		{"none", 5, 0, api.Outcome{}, []api.Chunk{body(0)}, body(0)},
	} {
		eachStructured(func(s api.Session, command uint16) {
			if command != api.CmdRead {
				return
			}
			for _, flags := range []uint16{0, api.FlagFua, api.FlagOne, 65535 &^ api.FlagDF} {
				wantInChunks(t, x.what, call{s, flagged(ask(0, x.offset, x.length), flags), x.o}, slices.Clone(x.bodies)...)
			}
			for _, flags := range []uint16{api.FlagDF, api.FlagDF | api.FlagFua, 65535} {
				wantInChunks(t, x.what+" in one", call{s, flagged(ask(0, x.offset, x.length), flags), x.o}, x.one)
			}
		})
	}
}

// P12.4: a hole as long as it can be is told in twelve bytes.
func TestLongHolesInChunks(t *testing.T) {
	o := pieces(hole(3, narrow), hole(3+narrow, narrow))
	for _, s := range []api.Session{chunked, wide, both} {
		wantInChunks(t, "two holes", call{s, ask(api.CmdRead, 3, 2*narrow), o}, body(2, uint64(3), uint32(narrow)), body(2, uint64(3+narrow), uint32(narrow)))
	}
}

// P12.4: of each context, in the session's order, its runs, or the first one alone.
func TestStatusInChunks(t *testing.T) {
	r := ask(api.CmdStatus, 512, 1024)
	o := lists(list(512, 3, 500, 0, 12, narrow), list(1024, 1), list(1, 2, 1023, 4))
	for _, flags := range []uint16{0, api.FlagFua, api.FlagDF, 65535 &^ api.FlagOne} {
		wantInChunks(t, "runs", call{telling(chunked, 3, narrow, 0), flagged(r, flags), o},
			body(5, uint32(3), uint32(512), uint32(3), uint32(500), uint32(0), uint32(12), uint32(narrow)),
			body(5, uint32(narrow), uint32(1024), uint32(1)),
			body(5, uint32(0), uint32(1), uint32(2), uint32(1023), uint32(4)))
		for _, s := range []api.Session{wide, both} {
			wantInChunks(t, "wide runs", call{telling(s, 3, narrow, 0), flagged(r, flags), o},
				body(6, uint32(3), uint32(3), uint64(512), uint64(3), uint64(500), uint64(0), uint64(12), uint64(narrow)),
				body(6, uint32(narrow), uint32(1), uint64(1024), uint64(1)),
				body(6, uint32(0), uint32(2), uint64(1), uint64(2), uint64(1023), uint64(4)))
		}
	}
	for _, flags := range []uint16{api.FlagOne, api.FlagOne | api.FlagFua, 65535} {
		wantInChunks(t, "one run", call{telling(chunked, 3, narrow, 0), flagged(r, flags), o},
			body(5, uint32(3), uint32(512), uint32(3)), body(5, uint32(narrow), uint32(1024), uint32(1)), body(5, uint32(0), uint32(1), uint32(2)))
		for _, s := range []api.Session{wide, both} {
			wantInChunks(t, "one wide run", call{telling(s, 3, narrow, 0), flagged(r, flags), o},
				body(6, uint32(3), uint32(1), uint64(512), uint64(3)), body(6, uint32(narrow), uint32(1), uint64(1024), uint64(1)), body(6, uint32(0), uint32(1), uint64(1), uint64(2)))
		}
	}
}

// P12.4: one context is one chunk; the same one twice is told twice; numbers as great as there is room for.
func TestStatusOfContexts(t *testing.T) {
	wantInChunks(t, "one", call{telling(chunked, 2), ask(7, 0, narrow), lists(list(narrow, narrow))}, body(5, uint32(2), uint32(narrow), uint32(narrow)))
	wantInChunks(t, "twice", call{telling(chunked, 2, 2), ask(7, 0, 4), lists(list(4, 0), list(1, 1, 3, 0))}, body(5, uint32(2), uint32(4), uint32(0)), body(5, uint32(2), uint32(1), uint32(1), uint32(3), uint32(0)))
	for _, s := range []api.Session{wide, both} {
		wantInChunks(t, "one", call{telling(s, 2), ask(7, 0, narrow), lists(list(narrow, narrow))}, body(6, uint32(2), uint32(1), uint64(narrow), uint64(narrow)))
		wantInChunks(t, "great", call{telling(s, 2), ask(7, 0, top), lists(list(top, top))}, body(6, uint32(2), uint32(1), uint64(top), uint64(top)))
		wantInChunks(t, "above 2^32", call{telling(s, 2), ask(7, 9, 1<<32+1), lists(list(1<<32, 1<<32, 1, 0))}, body(6, uint32(2), uint32(2), uint64(1<<32), uint64(1<<32), uint64(1), uint64(0)))
	}
}

// P12.4: an error of whatever command is one chunk, with its place, if it has one.
func TestErrorsInChunks(t *testing.T) {
	eachStructured(func(s api.Session, command uint16) {
		for _, code := range codes() {
			for _, flags := range []uint16{0, api.FlagDF, api.FlagOne, 65535} {
				for _, offset := range []uint64{0, 512, top - 1000} {
					r := flagged(ask(command, offset, 1000), flags)
					wantInChunks(t, "without a place", call{s, r, api.Outcome{Code: code}}, body(32769, code, uint16(0)))
					for _, at := range []uint64{offset, offset + 999} {
						wantInChunks(t, "with a place", call{s, r, api.Outcome{Code: code, Placed: true, At: at}}, body(32770, code, uint16(0), at))
					}
				}
				r := flagged(ask(command, 0, 0), flags)
				wantInChunks(t, "of no bytes", call{s, r, api.Outcome{Code: code}}, body(32769, code, uint16(0)))
			}
		}
	})
}

// P12.4: of every other command one chunk says that it went well.
func TestOthersInChunks(t *testing.T) {
	eachStructured(func(s api.Session, command uint16) {
		if command == api.CmdRead || command == api.CmdStatus {
			return
		}
		for _, flags := range []uint16{0, api.FlagDF, api.FlagOne, api.FlagPayload, 65535} {
			for _, length := range []uint64{0, 4, 1 << 40, top} {
				for _, offset := range []uint64{0, 512, top} {
					wantInChunks(t, "it went well", call{s, flagged(ask(command, offset, length), flags), api.Outcome{}}, body(0))
				}
			}
		}
	})
}
