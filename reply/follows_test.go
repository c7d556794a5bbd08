package reply_test

import (
	"slices"
	"testing"

	"spindle/api"
	"spindle/wire"
)

// place is a byte of a range, and how often it was told.
type place struct {
	value byte
	times int
}

// laid lays what the data chunks and holes of a read tell at their places.
func laid(t *testing.T, c call, l []api.Chunk) map[uint64]place {
	t.Helper()
	out := map[uint64]place{}
	for _, k := range l {
		off, b := uint64(0), []byte(nil)
		switch k.Type {
		case api.ChunkData:
			d, e := wire.UnpackData(k.Data)
			want(t, "UnpackData", e, api.OK)
			off, b = d.Off, d.Data
		case api.ChunkHole:
			h, e := wire.UnpackHole(k.Data)
			want(t, "UnpackHole", e, api.OK)
			off, b = h.Off, make([]byte, h.Len)
		case api.ChunkNone:
			want(t, "data of a ChunkNone", len(k.Data), 0)
		default:
			t.Fatalf("%v: a chunk %+v", c, k)
		}
		for i, v := range b {
			at := off + uint64(i)
			out[at] = place{v, out[at].times + 1}
		}
	}
	return out
}

// cut takes the chunks of an answer out of its bytes, with just one that is done: the last one.
func cut(t *testing.T, c call, b []byte) []api.Chunk {
	t.Helper()
	var out []api.Chunk
	for len(b) > 0 {
		k, n, e := wire.DecodeChunk(b, narrow, c.s.Extended)
		if e != api.OK || k.Cookie != c.r.Cookie || k.Flags == api.ChunkDone != (n == len(b)) || k.Flags&^api.ChunkDone != 0 {
			t.Fatalf("%v: a chunk %+v, %d", c, k, e)
		}
		out, b = append(out, k), b[n:]
	}
	return out
}

// P12.6: a read that went well tells the pieces' bytes, each place once, and no other place.
func TestReadTellsItsPieces(t *testing.T) {
	d := dice(6)
	seen := 0
	for range 200000 {
		c := thrown(&d)
		if c.r.Type != api.CmdRead || c.o.Code != 0 || c.fits() != api.OK {
			continue
		}
		seen++
		b, bytes := c.answers().bytes, told(c.o.Pieces)
		if !c.structured() {
			if len(b) != 16+len(bytes) || !slices.Equal(b[16:], bytes) {
				t.Fatalf("%v: %X", c, b)
			}
			continue
		}
		places := laid(t, c, cut(t, c, b))
		if len(places) != len(bytes) {
			t.Fatalf("%v: %d places, want %d", c, len(places), len(bytes))
		}
		for i, v := range bytes {
			if places[c.r.Offset+uint64(i)] != (place{v, 1}) {
				t.Fatalf("%v: byte %d is not told, or not once", c, i)
			}
		}
	}
	if seen < 10000 {
		t.Error("only so many reads:", seen)
	}
}

// P12.6, W3: whatever the answer is, it can be read back, and says what the outcome said.
func TestAnswersSayTheOutcome(t *testing.T) {
	d := dice(66)
	errors, statuses := 0, 0
	for range 200000 {
		c := thrown(&d)
		if c.fits() != api.OK {
			continue
		}
		b := c.answers().bytes
		if !c.structured() {
			head, n, e := wire.DecodeSimple(b)
			if e != api.OK || head != (api.SimpleReply{Code: c.o.Code, Cookie: c.r.Cookie}) || len(b) != n+len(told(c.o.Pieces)) {
				t.Fatalf("%v: %+v %d of %d bytes", c, head, e, len(b))
			}
			continue
		}
		l := cut(t, c, b)
		switch {
		case c.o.Code != 0:
			errors++
			said, e := wire.UnpackError(l[0].Data, l[0].Type == api.ChunkErrorAt)
			if e != api.OK || len(l) != 1 || said != (api.ErrorBody{Code: c.o.Code, Placed: c.o.Placed, At: c.o.At}) {
				t.Fatalf("%v: %+v", c, l)
			}
		case c.r.Type == api.CmdStatus:
			statuses++
			saysRuns(t, c, l)
		}
	}
	if errors < 5000 || statuses < 5000 {
		t.Error("only so many:", errors, statuses)
	}
}

// saysRuns holds the chunks of a status to tell the runs of each context.
func saysRuns(t *testing.T, c call, l []api.Chunk) {
	t.Helper()
	want(t, "chunks", len(l), len(c.s.Contexts))
	for i, k := range l {
		runs := c.o.Runs[i]
		if c.r.Flags&api.FlagOne != 0 {
			runs = runs[:1]
		}
		said, e := wire.UnpackStatus(k.Data, c.s.Extended)
		if e != api.OK || said.Context != c.s.Contexts[i] || !slices.Equal(said.Runs, runs) || k.Type == api.ChunkStatus64 != c.s.Extended {
			t.Fatalf("%v: %+v %d", c, said, e)
		}
	}
}
