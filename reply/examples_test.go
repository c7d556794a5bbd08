package reply_test

import (
	"strings"
	"testing"

	"spindle/api"
)

// xs are what the chapter's examples read: a hole of 512, and 512 bytes "x".
var xs = strings.Repeat("x", 512)

func halves() api.Outcome { return pieces(hole(0, 512), text(512, xs)) }

// P12.3, P12.5: example 1.
func TestExampleSimple(t *testing.T) {
	c := call{neither, ask(api.CmdRead, 0, 1024), halves()}
	wantSimple(t, "a read", c, 0, string(make([]byte, 512))+xs)
	head := []byte{0x67, 0x44, 0x66, 0x98, 0, 0, 0, 0, 0, 0, 0, 0, 0, 0, 0, 7}
	wantBytes(t, "a read", c, lay(head, make([]byte, 512), xs))
}

// P12.4: example 2.
func TestExampleChunks(t *testing.T) {
	c := call{chunked, ask(api.CmdRead, 0, 1024), halves()}
	wantChunks(t, "a read", c,
		api.Chunk{Type: api.ChunkHole, Cookie: 7, Data: lay(uint64(0), uint32(512))},
		api.Chunk{Type: api.ChunkData, Cookie: 7, Flags: api.ChunkDone, Data: lay(uint64(512), xs)})
	c.r.Flags = api.FlagDF
	wantChunks(t, "a read in one piece", c,
		api.Chunk{Type: api.ChunkData, Cookie: 7, Flags: api.ChunkDone, Data: lay(uint64(0), make([]byte, 512), xs)})
}

// P12.3, P12.4: example 3.
func TestExampleError(t *testing.T) {
	o := api.Outcome{Code: 5, Placed: true, At: 512}
	wantChunks(t, "of a read", call{chunked, ask(api.CmdRead, 0, 1024), o},
		api.Chunk{Type: api.ChunkErrorAt, Cookie: 7, Flags: api.ChunkDone, Data: []byte{0, 0, 0, 5, 0, 0, 0, 0, 0, 0, 0, 0, 2, 0}})
	wantSimple(t, "of a write", call{chunked, ask(api.CmdWrite, 0, 1024), o}, 5, "")
}

// P12.1: example 4.
func TestExampleOutcome(t *testing.T) {
	r := ask(api.CmdRead, 0, 1024)
	wantOutcome(t, "begins at 512", call{chunked, r, pieces(text(512, xs))})
	wantOutcome(t, "begins at 512, 1024 bytes", call{chunked, r, pieces(hole(512, 1024))})
	wantOutcome(t, "1023 bytes", call{chunked, r, pieces(hole(0, 512), text(512, xs[1:]))})
	o := halves()
	o.Runs = lists(list(1024, 0)).Runs
	wantOutcome(t, "runs beside a read", call{telling(chunked, 1), r, o})
}

// P12.4: example 5.
func TestExampleStatus(t *testing.T) {
	c := call{telling(chunked, 1, 2), ask(api.CmdStatus, 0, 1024), lists(list(512, 3, 512, 0), list(1024, 0))}
	second := api.Chunk{Type: api.ChunkStatus, Cookie: 7, Flags: api.ChunkDone, Data: lay(uint32(2), uint32(1024), uint32(0))}
	wantChunks(t, "a status", c, api.Chunk{Type: api.ChunkStatus, Cookie: 7, Data: lay(uint32(1), uint32(512), uint32(3), uint32(512), uint32(0))}, second)
	c.r.Flags = api.FlagOne
	wantChunks(t, "of one run", c, api.Chunk{Type: api.ChunkStatus, Cookie: 7, Data: lay(uint32(1), uint32(512), uint32(3))}, second)
}

// P12.3, P12.4, P12.5: example 6.
func TestExampleOfNoBytes(t *testing.T) {
	c := call{neither, ask(api.CmdRead, 0, 0), api.Outcome{}}
	wantSimple(t, "simple", c, 0, "")
	wantBytes(t, "simple", c, lay(uint32(0x67446698), uint32(0), uint64(7)))
	c.s = chunked
	wantChunks(t, "structured", c, api.Chunk{Type: api.ChunkNone, Cookie: 7, Flags: api.ChunkDone})
	wantBytes(t, "structured", c, lay(uint32(0x668e33ef), uint16(1), uint16(0), uint64(7), uint32(0)))
}
