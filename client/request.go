package client

import (
	"cmp"
	"slices"

	"spindle/api"
	"spindle/extent"
	"spindle/wire"
)

// A mark says whether a byte of a read was told.
type mark bool

const (
	untold mark = false
	told   mark = true
)

// A request is one that is outstanding, and what its chunks have told.
type request struct {
	api.Outstanding
	flags  uint16
	code   uint32            // the first error
	marks  *extent.Map[mark] // of each byte of a read; nil of all else
	parts  []api.DataBody    // the bytes that were told; a hole's are none of them
	status []api.ContextRuns
}

func newRequest(r api.Request) *request {
	q := &request{Outstanding: api.Outstanding{Cookie: r.Cookie, Type: r.Type, Offset: r.Offset, Length: r.Length}, flags: r.Flags}
	if r.Type == api.CmdRead {
		q.marks, _ = extent.New(int64(r.Length), untold) // no read is longer than MaxPayload
	}
	return q
}

// sorted gives the outstanding requests by rising cookies.
func (c *Client) sorted() []api.Outstanding {
	if !c.usable() {
		return nil
	}
	var out []api.Outstanding
	for _, q := range c.requests {
		out = append(out, q.Outstanding)
	}
	slices.SortFunc(out, func(a, b api.Outstanding) int { return cmp.Compare(a.Cookie, b.Cookie) })
	return out
}

// asksFor tells whether n bytes from off on were all asked for. Nothing wraps.
func (q *request) asksFor(off, n uint64) bool {
	if off < q.Offset || off-q.Offset > q.Length {
		return false
	}
	return n <= q.Length-(off-q.Offset)
}

// hearData takes a ChunkData's body, if it may be one of this request.
func (q *request) hearData(b []byte) bool {
	body, e := wire.UnpackData(b)
	if e != api.OK || !q.tell(body.Off, uint64(len(body.Data))) {
		return false
	}
	q.parts = append(q.parts, body)
	return true
}

// hearHole takes a ChunkHole's body, if it may be one of this request.
func (q *request) hearHole(b []byte) bool {
	body, e := wire.UnpackHole(b)
	return e == api.OK && !q.has(api.FlagDF) && q.tell(body.Off, uint64(body.Len))
}

// hearError takes a ChunkError's body, or that of a ChunkErrorAt, if it may be one of this request.
func (q *request) hearError(b []byte, placed bool) bool {
	body, e := wire.UnpackError(b, placed)
	if e != api.OK || body.Code == 0 || placed && !q.asksFor(body.At, 1) {
		return false
	}
	if q.code == 0 {
		q.code = body.Code
	}
	return true
}

// hearStatus takes the body of a block status, if it may be one of this request, and of the contexts that were chosen.
func (q *request) hearStatus(b []byte, wide bool, chosen []uint32) bool {
	body, e := wire.UnpackStatus(b, wide)
	if e != api.OK || q.Type != api.CmdStatus || !slices.Contains(chosen, body.Context) || q.knows(body.Context) || !q.holds(body.Runs) {
		return false
	}
	q.status = append(q.status, api.ContextRuns{Context: body.Context, Runs: body.Runs})
	return true
}

func (q *request) has(flag uint16) bool { return q.flags&flag != 0 }

// tell marks n bytes from off on as told, if they may be.
func (q *request) tell(off, n uint64) bool {
	if q.Type != api.CmdRead || n == 0 || !q.asksFor(off, n) {
		return false
	}
	lo := int64(off - q.Offset)
	hi := lo + int64(n)
	if q.finds(told, lo, hi) || q.has(api.FlagDF) && q.finds(told, 0, q.marks.Size()) {
		return false
	}
	q.marks.Set(lo, hi, told)
	return true
}

// finds tells whether a byte of a range has that mark.
func (q *request) finds(m mark, lo, hi int64) bool {
	for run := range q.marks.Runs(lo, hi) {
		if run.V == m {
			return true
		}
	}
	return false
}

// knows tells whether a context was told already.
func (q *request) knows(context uint32) bool {
	return slices.ContainsFunc(q.status, func(s api.ContextRuns) bool { return s.Context == context })
}

// holds tells whether the runs may be those of one context. Their lengths are taken away from what is left, since a sum could wrap.
func (q *request) holds(runs []api.StatusRun) bool {
	left := q.Length
	for _, run := range runs {
		if run.Len == 0 || run.Len > left {
			return false
		}
		left -= run.Len
	}
	return len(runs) == 1 || !q.has(api.FlagOne)
}

// lacks tells whether something that was asked for was not told.
func (q *request) lacks(chosen []uint32) bool {
	if q.Type == api.CmdStatus {
		return len(q.status) < len(chosen) // each that was told is a chosen one, and another
	}
	return q.finds(untold, 0, q.marks.Size())
}

// data gives the bytes of a read, which were all told: holes are 0.
func (q *request) data() []byte {
	if q.Type != api.CmdRead {
		return nil
	}
	b := make([]byte, q.marks.Size())
	for _, p := range q.parts {
		copy(b[p.Off-q.Offset:], p.Data)
	}
	return b
}

// forget lets go what the chunks have told.
func (q *request) forget() { *q = request{Outstanding: q.Outstanding} }
