package client

import "spindle/api"

// hearAnswer hears the head of a simple answer, or a chunk.
func (c *Client) hearAnswer(r api.Reply) []api.Event {
	if r.Structured {
		return c.hearChunk(r.Chunk)
	}
	return c.hearSimple(r.Simple)
}

func (c *Client) hearSimple(s api.SimpleReply) []api.Event {
	q, ok := c.requests[s.Cookie]
	switch {
	case !ok || c.chunks && (q.Type == api.CmdRead || q.Type == api.CmdStatus):
		return c.breaks()
	case q.Type == api.CmdRead && s.Code == 0:
		c.reading = q
		return nil
	}
	return c.done(q, api.Event{Code: s.Code})
}

// hearRead hears the data behind a simple answer's head.
func (c *Client) hearRead(data []byte) []api.Event {
	q := c.reading
	c.reading = nil
	return c.done(q, api.Event{Data: data})
}

// done ends a request.
func (c *Client) done(q *request, e api.Event) []api.Event {
	delete(c.requests, q.Cookie)
	e.Kind, e.Cookie = api.EvDone, q.Cookie
	return []api.Event{e}
}

func (c *Client) hearChunk(k api.Chunk) []api.Event {
	q, ok := c.requests[k.Cookie]
	switch {
	case !ok || !c.chunks || k.Flags&^api.ChunkDone != 0,
		c.extended && k.Off != q.Offset,
		!c.takes(q, k):
		return c.breaks()
	case k.Flags&api.ChunkDone != 0:
		return c.hearLast(q)
	}
	return nil
}

// takes lets a request take a chunk's body, if its chunk may be one of the request's.
func (c *Client) takes(q *request, k api.Chunk) bool {
	switch k.Type {
	case api.ChunkNone:
		return len(k.Data) == 0 && k.Flags&api.ChunkDone != 0
	case api.ChunkData:
		return q.hearData(k.Data)
	case api.ChunkHole:
		return q.hearHole(k.Data)
	case api.ChunkStatus, api.ChunkStatus64:
		wide := k.Type == api.ChunkStatus64
		return wide == c.extended && q.hearStatus(k.Data, wide, c.chosen)
	case api.ChunkError, api.ChunkErrorAt:
		return q.hearError(k.Data, k.Type == api.ChunkErrorAt)
	}
	return false
}

// hearLast ends a request whose last chunk has come: with an error, whatever was told; else with all that was asked for.
func (c *Client) hearLast(q *request) []api.Event {
	switch {
	case q.code != 0:
		return c.done(q, api.Event{Code: q.code})
	case q.lacks(c.chosen):
		return c.breaks()
	}
	return c.done(q, api.Event{Data: q.data(), Status: q.status})
}
