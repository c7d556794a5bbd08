package trace

import (
	"spindle/api"
	"spindle/wire"
)

// magicSize is how many bytes tell which kind of answer it is.
const magicSize = 4

// How many bytes a chunk's data have at least; a hole's just so many.
const (
	placeSize     = 8 // an offset ahead of the data
	leastData     = placeSize + 1
	holeSize      = placeSize + 4
	leastStatus   = 4 + 8
	leastStatus64 = 4 + 4 + 16
	leastError    = 4 + 2
	leastErrorAt  = leastError + 8
)

// answer is what the server's next bytes are looked at as in the transmission.
func (x *line) answer() (api.Record, bool) {
	switch {
	case len(x.requests) == 0:
		return x.server.whole(1, x.seeUnawaited)
	case len(x.server.held) < magicSize:
		return api.Record{}, false
	}
	switch magic := uint32(number(x.server.held[:magicSize])); {
	case magic == api.MagicSimple && !x.extended:
		return x.server.whole(api.SimpleHead, x.seeSimple)
	case magic == api.MagicChunk && x.chunks && !x.extended:
		return x.server.whole(api.ChunkHead, x.seeChunk)
	case magic == api.MagicChunk64 && x.extended:
		return x.server.whole(api.ChunkHead64, x.seeChunk)
	}
	return x.server.wrong(), true
}

// asked gives the first outstanding request with a cookie; nil, if there is none.
func (x *line) asked(cookie uint64) *request {
	list := x.requests[cookie]
	if len(list) == 0 {
		return nil
	}
	return &list[0]
}

// seeSimple sees the head of a simple answer (P22.7).
func (x *line) seeSimple(head []byte) api.Record {
	s, _, _ := wire.DecodeSimple(head)
	q := x.asked(s.Cookie)
	if q == nil || x.chunks && (q.kind == api.CmdRead || q.kind == api.CmdStatus) {
		return x.server.wrong()
	}
	r := api.Record{Kind: api.RecAnswer, N: q.n, Code: s.Code, Last: true}
	if q.kind == api.CmdRead && s.Code == 0 {
		r.Size = q.length
	}
	q.failed = q.failed || s.Code != 0
	x.tally.Read += r.Size
	x.server.cut(head, r.Size)
	x.close(s.Cookie)
	return r
}

// seeChunk sees the head of a chunk (P22.7).
func (x *line) seeChunk(head []byte) api.Record {
	c, _, _ := wire.DecodeChunk(head, headAlone, x.extended)
	size := x.chunkSize(head)
	q := x.asked(c.Cookie)
	if q == nil || !x.fits(*q, c, size) {
		return x.server.wrong()
	}
	r := api.Record{Kind: api.RecChunk, N: q.n, Code: uint32(c.Type), Size: size, Last: c.Flags&api.ChunkDone != 0}
	q.failed = q.failed || c.Type == api.ChunkError || c.Type == api.ChunkErrorAt
	if c.Type == api.ChunkData {
		x.tally.Read += size - placeSize
	}
	x.server.cut(head, size)
	if r.Last {
		x.close(c.Cookie)
	}
	return r
}

// chunkSize reads the length of a chunk's data, with which its head ends.
func (x *line) chunkSize(head []byte) uint64 {
	if x.extended {
		return number(head[api.ChunkHead64-8:])
	}
	return number(head[api.ChunkHead-4:])
}

// fits tells whether a chunk may be one of a request's.
func (x *line) fits(q request, c api.Chunk, size uint64) bool {
	if c.Flags&^api.ChunkDone != 0 || x.extended && c.Off != q.offset {
		return false
	}
	switch c.Type {
	case api.ChunkNone:
		return size == 0 && c.Flags&api.ChunkDone != 0
	case api.ChunkData:
		return q.kind == api.CmdRead && size >= leastData
	case api.ChunkHole:
		return q.kind == api.CmdRead && size == holeSize
	case api.ChunkStatus:
		return q.kind == api.CmdStatus && !x.extended && size >= leastStatus
	case api.ChunkStatus64:
		return q.kind == api.CmdStatus && x.extended && size >= leastStatus64
	case api.ChunkError:
		return size >= leastError
	case api.ChunkErrorAt:
		return size >= leastErrorAt
	}
	return false
}

// close counts the first outstanding request with a cookie, which has had its last answer, and lets it go.
func (x *line) close(cookie uint64) {
	list := x.requests[cookie]
	x.tally.Answered++
	if list[0].failed {
		x.tally.Failed++
	}
	if len(list) == 1 {
		delete(x.requests, cookie)
		return
	}
	x.requests[cookie] = list[1:]
}
