package server_test

import (
	"encoding/binary"
	"slices"
	"testing"

	"spindle/api"
)

// heard is one whole answer, as a client hears it that knows the protocol and what it asked, and nothing else.
type heard struct {
	code   uint32
	placed bool
	at     uint64
	data   []byte  // of a read
	parts  []part  // the chunks in which that came
	status [][]run // of each context that was told, in their order
	ids    []uint32
}

// part is a chunk of a read: a hole, or data.
type part struct {
	off, len uint64
	hole     bool
}

// run is one of a context's.
type run struct{ len, flags uint64 }

// ear cuts what a server says.
type ear struct {
	t    *testing.T
	rest []byte
}

func (x *ear) cut(n uint64) []byte {
	x.t.Helper()
	if uint64(len(x.rest)) < n {
		x.t.Fatalf("%d bytes are said, %d are wanted", len(x.rest), n)
	}
	b := x.rest[:n]
	x.rest = x.rest[n:]
	return b
}

func (x *ear) u16() uint16 { return binary.BigEndian.Uint16(x.cut(2)) }
func (x *ear) u32() uint32 { return binary.BigEndian.Uint32(x.cut(4)) }
func (x *ear) u64() uint64 { return binary.BigEndian.Uint64(x.cut(8)) }

// hear hears one answer to a request, which must be all that is said (W3).
func hear(t *testing.T, s api.Session, q api.Request, said []byte) heard {
	t.Helper()
	x := &ear{t, said}
	var h heard
	if s.Extended || s.Structured && (q.Type == api.CmdRead || q.Type == api.CmdStatus) {
		x.chunks(s, q, &h)
	} else {
		want(t, "the magic", x.u32(), 0x67446698)
		h.code = x.u32()
		want(t, "the cookie", x.u64(), q.Cookie)
		if q.Type == api.CmdRead && h.code == 0 {
			h.data = x.cut(q.Length)
		}
	}
	want(t, "bytes that are left", len(x.rest), 0)
	return h
}

func (x *ear) chunks(s api.Session, q api.Request, h *heard) {
	x.t.Helper()
	for last := false; !last; {
		kind, body, done := x.chunk(s, q)
		last = done
		b := &ear{x.t, body}
		switch {
		case kind == api.ChunkNone:
			want(x.t, "alone", last && len(body) == 0 && q.Type != api.CmdRead && q.Type != api.CmdStatus, true)
		case kind == api.ChunkData && q.Type == api.CmdRead:
			b.place(q, h, uint64(len(body)-8), false)
		case kind == api.ChunkHole && q.Type == api.CmdRead:
			b.place(q, h, uint64(binary.BigEndian.Uint32(body[8:])), true)
		case q.Type == api.CmdStatus && kind == statusKind(s):
			b.runs(s, h)
		case kind == api.ChunkError || kind == api.ChunkErrorAt:
			want(x.t, "alone", last && h.parts == nil && h.status == nil, true)
			h.code = b.u32()
			want(x.t, "the text", b.u16(), 0)
			if h.placed = kind == api.ChunkErrorAt; h.placed {
				h.at = b.u64()
			}
		default:
			x.t.Fatalf("chunk %d of command %d", kind, q.Type)
		}
		want(x.t, "bytes of a chunk that are left", len(b.rest), 0)
	}
	if q.Type == api.CmdRead && h.code == 0 {
		want(x.t, "bytes of a read", uint64(len(h.data)), q.Length)
	}
	if q.Type == api.CmdStatus && h.code == 0 {
		want(x.t, "contexts", slices.Equal(h.ids, s.Contexts), true)
	}
}

func statusKind(s api.Session) uint16 {
	if s.Extended {
		return api.ChunkStatus64
	}
	return api.ChunkStatus
}

// chunk cuts the next one: its kind, its body, is it the last.
func (x *ear) chunk(s api.Session, q api.Request) (uint16, []byte, bool) {
	x.t.Helper()
	magic := x.u32()
	flags, kind := x.u16(), x.u16()
	want(x.t, "flags", flags <= api.ChunkDone, true)
	want(x.t, "the cookie", x.u64(), q.Cookie)
	if !s.Extended {
		want(x.t, "the magic", magic, 0x668e33ef)
		return kind, x.cut(uint64(x.u32())), flags == api.ChunkDone
	}
	want(x.t, "the magic", magic, 0x6e8a278c)
	want(x.t, "Off", x.u64(), q.Offset)
	return kind, x.cut(x.u64()), flags == api.ChunkDone
}

// place hears a part of a read, which must lie behind what was heard so far.
func (x *ear) place(q api.Request, h *heard, n uint64, hole bool) {
	x.t.Helper()
	off := x.u64()
	want(x.t, "the place", off, q.Offset+uint64(len(h.data)))
	h.parts = append(h.parts, part{off, n, hole})
	if hole {
		x.u32()
		h.data = append(h.data, make([]byte, n)...)
	} else {
		h.data = append(h.data, x.cut(n)...)
	}
}

// runs hears what is told of one context.
func (x *ear) runs(s api.Session, h *heard) {
	x.t.Helper()
	h.ids = append(h.ids, x.u32())
	var list []run
	if s.Extended {
		n := x.u32()
		for len(x.rest) > 0 {
			list = append(list, run{x.u64(), x.u64()})
		}
		want(x.t, "runs", n, uint32(len(list)))
	}
	for len(x.rest) > 0 {
		list = append(list, run{uint64(x.u32()), uint64(x.u32())})
	}
	h.status = append(h.status, list)
}
