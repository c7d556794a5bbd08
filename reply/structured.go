package reply

import (
	"spindle/api"
	"spindle/wire"
)

// structured makes answers in chunks.
type structured struct {
	s api.Session
	r api.Request
	o api.Outcome
}

func (m structured) bytes() []byte {
	var out []byte
	for _, c := range m.chunks() {
		out = append(out, wire.EncodeChunk(c, m.s.Extended)...)
	}
	return out
}

// chunks are at least one, whatever the outcome: so there is always a last one to say that it is.
func (m structured) chunks() []api.Chunk {
	var out []api.Chunk
	switch {
	case m.o.Code != 0:
		out = append(out, m.failure())
	case m.r.Type == api.CmdRead && m.r.Length > 0:
		out = m.read()
	case m.r.Type == api.CmdStatus:
		out = m.status()
	default:
		out = append(out, m.chunk(api.ChunkNone, nil))
	}
	out[len(out)-1].Flags = api.ChunkDone
	return out
}

// chunk gives one with the marks by which its request is known.
func (m structured) chunk(kind uint16, data []byte) api.Chunk {
	c := api.Chunk{Type: kind, Cookie: m.r.Cookie, Data: data}
	if m.s.Extended {
		c.Off = m.r.Offset
	}
	return c
}

// Wire refuses none of the bodies that are packed below: P12.1 asks of an outcome all that P8.5 asks of them.

func (m structured) failure() api.Chunk {
	kind := uint16(api.ChunkError)
	if m.o.Placed {
		kind = api.ChunkErrorAt
	}
	data, _ := wire.PackError(api.ErrorBody{Code: m.o.Code, Placed: m.o.Placed, At: m.o.At})
	return m.chunk(kind, data)
}

// read tells a read in one chunk, if its client asked not to have it in fragments.
func (m structured) read() []api.Chunk {
	if m.r.Flags&api.FlagDF != 0 {
		return []api.Chunk{m.data(m.r.Offset, gather(m.r, m.o.Pieces))}
	}
	var out []api.Chunk
	for _, p := range m.o.Pieces {
		if p.Hole {
			out = append(out, m.chunk(api.ChunkHole, wire.PackHole(api.HoleBody{Off: p.Off, Len: p.Len})))
		} else {
			out = append(out, m.data(p.Off, p.Data))
		}
	}
	return out
}

func (m structured) data(off uint64, read []byte) api.Chunk {
	data, _ := wire.PackData(api.DataBody{Off: off, Data: read})
	return m.chunk(api.ChunkData, data)
}

// status tells of each context the runs; the first one alone, if its client asked for one.
func (m structured) status() []api.Chunk {
	kind := uint16(api.ChunkStatus)
	if m.s.Extended {
		kind = api.ChunkStatus64
	}
	var out []api.Chunk
	for i, runs := range m.o.Runs {
		if m.r.Flags&api.FlagOne != 0 {
			runs = runs[:1]
		}
		data, _ := wire.PackStatus(api.StatusBody{Context: m.s.Contexts[i], Runs: runs}, m.s.Extended)
		out = append(out, m.chunk(kind, data))
	}
	return out
}
