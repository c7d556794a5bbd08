package client_test

import (
	"testing"

	"spindle/api"
)

// The chapter's first example: the greeting, flags, LIST.
func TestExampleOfList(t *testing.T) {
	c := fresh(t)
	wantEvents(t, "the greeting", c.In(greetingBytes(3)), api.Event{Kind: api.EvGreeting, Flags: 3})
	_, e := c.Option(3, nil)
	want(t, "Option ahead of the flags", e, api.ErrAsk)
	b, e := c.Flags(3)
	want(t, "Flags", e, api.OK)
	wantBytes(t, "Flags", b, []byte{0, 0, 0, 3})
	b, e = c.Option(3, nil)
	want(t, "Option", e, api.OK)
	want(t, "Option", len(b), 16)
	_, e = c.Option(3, nil)
	want(t, "Option again", e, api.ErrAsk)
	wantEvents(t, "LIST", c.In(lay(replyBytes(3, 2, serverBody("a")...), ackBytes(3))), api.Event{Kind: api.EvExport, Option: 3, Text: "a"}, api.Event{Kind: api.EvAck, Option: 3})
}

// The second one: GO, and a read that is answered by a simple answer.
func TestExampleOfGo(t *testing.T) {
	c := haggling(t, 3)
	_, e := c.Info(true, api.InfoRequest{Name: "a"})
	want(t, "Info", e, api.OK)
	wantEvents(t, "GO", c.In(lay(replyBytes(7, 3, exportBody(4096, 1)...), ackBytes(7))),
		api.Event{Kind: api.EvInfo, Option: 7, Info: api.Info{Size: 4096, Flags: 1}}, api.Event{Kind: api.EvAck, Option: 7}, started(4096, 1))
	want(t, "Phase", c.Phase(), api.ClientWork)
	b, cookie, e := c.Request(api.Request{Type: api.CmdRead, Length: 512})
	want(t, "Request", e, api.OK)
	want(t, "Request", len(b), 28)
	want(t, "the cookie", cookie, 1)
	wantEvents(t, "the answer", c.In(simpleBytes(0, 1, many(512)...)), done(1, 0, many(512)...))
}

// The third one: a read in chunks.
func TestExampleOfChunks(t *testing.T) {
	hole := inChunks.chunk(0, api.ChunkHole, 1, 0, holeBody(0, 256)...)
	data := func(flags uint16, off uint64, n int) []byte {
		return inChunks.chunk(flags, api.ChunkData, 1, 0, dataBody(off, many(n)...)...)
	}
	c := waiting(t, inChunks, read(0, 512))
	wantEvents(t, "a hole", c.In(hole))
	wantEvents(t, "data", c.In(data(1, 256, 256)), done(1, 0, lay(make([]byte, 256), many(256))...))

	c = waiting(t, inChunks, read(0, 512))
	wantEvents(t, "all", c.In(data(0, 0, 512)))
	wantBreak(t, "again the same", c, data(0, 0, 512))

	c = waiting(t, inChunks, read(0, 512))
	wantBreak(t, "256 bytes were not told", c, inChunks.chunk(1, api.ChunkHole, 1, 0, holeBody(0, 256)...))
}

// The fourth one: an unknown cookie, a RepServer of GO.
func TestExampleOfBreaks(t *testing.T) {
	wantBreak(t, "cookie 9", waiting(t, plainly, read(0, 512)), simpleBytes(0, 9))
	c := haggling(t, 3)
	mustAsk(t, c, api.OptGo)
	wantBreak(t, "a RepServer of GO", c, replyBytes(7, 2, serverBody("a")...))
}

// The fifth one: an error, whatever was told ahead.
func TestExampleOfAnError(t *testing.T) {
	last := inChunks.chunk(1, api.ChunkError, 1, 0, errorBody(5, "")...)
	c := waiting(t, inChunks, read(0, 512))
	wantEvents(t, "an error alone", c.In(last), done(1, 5))

	c = waiting(t, inChunks, read(0, 512))
	wantEvents(t, "data", c.In(inChunks.chunk(0, api.ChunkData, 1, 0, dataBody(0, many(512)...)...)))
	wantEvents(t, "an error behind data", c.In(last), done(1, 5))
}
