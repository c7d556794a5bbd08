package reply_test

import (
	"fmt"
	"reflect"
	"slices"
	"testing"

	"spindle/api"
	"spindle/reply"
)

const (
	top    = 1<<64 - 1
	narrow = 1<<32 - 1
)

// call is all that is handed to one.
type call struct {
	s api.Session
	r api.Request
	o api.Outcome
}

func (c call) String() string { return fmt.Sprintf("%+v %+v %+v", c.s, c.r, c.o) }

func (c call) fits() api.Errno { return reply.Fits(c.s, c.r, c.o) }

func (c call) structured() bool { return reply.Structured(c.s, c.r) }

// answers is all that is answered to a call, beside Fits and Structured.
type answers struct {
	head      api.SimpleReply
	data      []byte
	simple    api.Errno
	chunks    []api.Chunk
	inChunks  api.Errno
	bytes     []byte
	asItComes api.Errno
}

func (c call) answers() answers {
	var a answers
	a.head, a.data, a.simple = reply.Simple(c.s, c.r, c.o)
	a.chunks, a.inChunks = reply.Chunks(c.s, c.r, c.o)
	a.bytes, a.asItComes = reply.Bytes(c.s, c.r, c.o)
	return a
}

// The sessions that there are, by what was agreed upon.
var (
	neither = api.Session{}
	chunked = api.Session{Structured: true}
	wide    = api.Session{Extended: true}
	both    = api.Session{Structured: true, Extended: true}
)

func kinds() []api.Session { return []api.Session{neither, chunked, wide, both} }

// telling gives a session with these contexts.
func telling(s api.Session, ids ...uint32) api.Session {
	s.Contexts = ids
	return s
}

// sessions are those of all kinds, with no context, with one, with several.
func sessions() []api.Session {
	var out []api.Session
	for _, s := range kinds() {
		out = append(out, s, telling(s, api.ContextBase), telling(s, 3, 1, 2))
	}
	return out
}

// tells says whether a status can go well in a session.
func tells(s api.Session) bool { return (s.Structured || s.Extended) && len(s.Contexts) > 0 }

// eight are the commands.
func eight() []uint16 {
	return []uint16{api.CmdRead, api.CmdWrite, api.CmdDisc, api.CmdFlush, api.CmdTrim, api.CmdCache, api.CmdZeroes, api.CmdStatus}
}

// strange are numbers of no command, some of which look like one in fewer bits.
func strange() []uint16 {
	return []uint16{8, 9, 15, 255, 256, 263, 0x7fff, 0x8000, 0x8007, 0xff00, 0xff07, 65535}
}

// others are the commands that tell nothing but how it went.
func others() []uint16 { return append(eight()[1:7], strange()...) }

func all() []uint16 { return append(eight(), strange()...) }

// ask is a request of a range.
func ask(command uint16, offset, length uint64) api.Request {
	return api.Request{Type: command, Cookie: 7, Offset: offset, Length: length}
}

// flagged gives a request with other flags.
func flagged(r api.Request, flags uint16) api.Request {
	r.Flags = flags
	return r
}

func hole(off uint64, length uint32) api.Piece { return api.Piece{Off: off, Len: length, Hole: true} }

func text(off uint64, s string) api.Piece {
	return api.Piece{Off: off, Len: uint32(len(s)), Data: []byte(s)}
}

func pieces(l ...api.Piece) api.Outcome { return api.Outcome{Pieces: l} }

func lists(l ...[]api.StatusRun) api.Outcome { return api.Outcome{Runs: l} }

// list gives runs of these lengths and flags, one behind the other.
func list(n ...uint64) []api.StatusRun {
	var out []api.StatusRun
	for i := 0; i < len(n); i += 2 {
		out = append(out, api.StatusRun{Len: n[i], Flags: n[i+1]})
	}
	return out
}

// well is an outcome of a request that went well, of whatever command.
func well(s api.Session, r api.Request) api.Outcome {
	switch {
	case r.Type == api.CmdRead && r.Length > 0:
		return pieces(hole(r.Offset, uint32(r.Length)))
	case r.Type == api.CmdStatus:
		var o api.Outcome
		for range s.Contexts {
			o.Runs = append(o.Runs, list(r.Length, 0))
		}
		return o
	}
	return api.Outcome{}
}

func want[T comparable](t *testing.T, what string, got, want T) {
	t.Helper()
	if got != want {
		t.Errorf("%s: %v, want %v", what, got, want)
	}
}

// wantFits holds a call's outcome to fit: then there is an answer in the one form, and in the other one none.
func wantFits(t *testing.T, what string, c call) {
	t.Helper()
	if e := c.fits(); e != api.OK {
		t.Errorf("%s: %v: %d, want that it fits", what, c, e)
		return
	}
	simple, inChunks := api.OK, api.ErrArg
	if c.structured() {
		simple, inChunks = inChunks, simple
	}
	wantErrors(t, what, c, simple, inChunks, api.OK)
}

// wantOutcome holds a call's outcome not to fit: then there is no answer.
func wantOutcome(t *testing.T, what string, c call) {
	t.Helper()
	if e := c.fits(); e != api.ErrOutcome {
		t.Errorf("%s: %v: %d, want %d", what, c, e, api.ErrOutcome)
	}
	wantErrors(t, what, c, api.ErrOutcome, api.ErrOutcome, api.ErrOutcome)
}

// wantErrors holds the errors of the three that make answers, and that beside an error nothing is told (R2).
func wantErrors(t *testing.T, what string, c call, simple, inChunks, bytes api.Errno) {
	t.Helper()
	a := c.answers()
	if a.simple != simple || a.inChunks != inChunks || a.asItComes != bytes {
		t.Errorf("%s: %v: %d %d %d, want %d %d %d", what, c, a.simple, a.inChunks, a.asItComes, simple, inChunks, bytes)
	}
	if a.simple != api.OK && (a.head != api.SimpleReply{} || len(a.data) > 0) {
		t.Errorf("%s: %v: %+v %d beside an error", what, c, a.head, len(a.data))
	}
	if a.inChunks != api.OK && len(a.chunks) > 0 || a.inChunks == api.OK && len(a.chunks) == 0 {
		t.Errorf("%s: %v: %d chunks, %d", what, c, len(a.chunks), a.inChunks)
	}
	if a.asItComes != api.OK && len(a.bytes) > 0 || a.asItComes == api.OK && len(a.bytes) < api.SimpleHead {
		t.Errorf("%s: %v: %d bytes, %d", what, c, len(a.bytes), a.asItComes)
	}
}

// wantChunks holds the chunks of an answer.
func wantChunks(t *testing.T, what string, c call, chunks ...api.Chunk) {
	t.Helper()
	got, e := reply.Chunks(c.s, c.r, c.o)
	if e != api.OK || !sameChunks(got, chunks) {
		t.Errorf("%s: %v: %+v %d, want %+v", what, c, got, e, chunks)
	}
}

// sameChunks takes a list that is empty for one that is nil.
func sameChunks(a, b []api.Chunk) bool {
	return slices.EqualFunc(a, b, func(a, b api.Chunk) bool {
		same := slices.Equal(a.Data, b.Data)
		a.Data, b.Data = nil, nil
		return same && reflect.DeepEqual(a, b)
	})
}

// wantSimple holds a simple answer.
func wantSimple(t *testing.T, what string, c call, code uint32, data string) {
	t.Helper()
	head, b, e := reply.Simple(c.s, c.r, c.o)
	if want := (api.SimpleReply{Code: code, Cookie: c.r.Cookie}); e != api.OK || head != want || string(b) != data {
		t.Errorf("%s: %v: %+v %q %d, want %+v %q", what, c, head, b, e, want, data)
	}
}

// wantBytes holds an answer to be the bytes that are handed in.
func wantBytes(t *testing.T, what string, c call, b []byte) {
	t.Helper()
	got, e := reply.Bytes(c.s, c.r, c.o)
	if e != api.OK || !slices.Equal(got, b) {
		t.Errorf("%s: %v: %d\n%X, want\n%X", what, c, e, got, b)
	}
}

// lay gives numbers with their high byte first, in as many bytes as they have, and texts.
func lay(parts ...any) []byte {
	var out []byte
	for _, p := range parts {
		switch x := p.(type) {
		case uint16:
			out = append(out, byte(x>>8), byte(x))
		case uint32:
			out = append(out, lay(uint16(x>>16), uint16(x))...)
		case uint64:
			out = append(out, lay(uint32(x>>32), uint32(x))...)
		case string:
			out = append(out, x...)
		case []byte:
			out = append(out, x...)
		default:
			panic("no part")
		}
	}
	return out
}

// roomy gives a copy of a list with spare room behind it.
func roomy[T any](list []T, spare T) []T {
	room := append(slices.Clone(list), spare, spare, spare)
	return room[:len(list)]
}

// full is a list with the spare room behind it.
func full[T any](list []T) []T { return list[:cap(list)] }

// dice gives numbers that look as if thrown, the same ones in each run.
type dice uint64

func (d *dice) below(n int) int {
	*d = *d*6364136223846793005 + 1442695040888963407
	return int(uint64(*d)>>33) % n
}

func (d *dice) bool() bool { return d.below(2) == 1 }

// pick throws for one of a list.
func pick[T any](d *dice, list ...T) T { return list[d.below(len(list))] }
