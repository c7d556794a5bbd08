package conn_test

import (
	"testing"

	"spindle/api"
)

// The chapter's first example.
func TestExampleOfWork(t *testing.T) {
	c := fresh(t, one(), small(2))
	want(t, "Out", len(c.Out()), 18)
	wantTook(t, "Take", c.Take(), api.Took{})
	want(t, "Feed", c.Feed([]byte{0, 0, 0, 3}), 4)
	wantTook(t, "Take", c.Take(), api.Took{Kind: api.TookFlags})
	give(t, c, option(api.OptGo, infoRequest("a")...))
	for i, off := range []uint64{0, 0, 4096} {
		give(t, c, requestBytes(read(uint64(i), off, 512), false))
	}
	wantTook(t, "Take", c.Take(), api.Took{Kind: api.TookOption, Code: 7})
	wantTook(t, "Take", c.Take(), api.Took{Kind: api.TookRequest, Task: api.Task{ID: 1, Req: read(0, 0, 512)}})
	wantTook(t, "Take", c.Take(), api.Took{Kind: api.TookRequest, Task: api.Task{ID: 2, Req: read(1, 0, 512)}})
	wantTook(t, "Take", c.Take(), api.Took{})
	want(t, "Finish without pieces", c.Finish(2, api.Outcome{}), api.ErrOutcome)
	want(t, "Finish", c.Finish(2, api.Outcome{Code: 5}), api.OK)
	want(t, "Send 1", c.Send(1), api.ErrTask)
	want(t, "Send 2", c.Send(2), api.OK)
	wantTook(t, "Take", c.Take(), api.Took{Kind: api.TookRequest, Task: api.Task{ID: 3, Req: read(2, 4096, 512)}, Refused: true})
	wantNumbers(t, "Pending", c.Pending(), 1)
	wantNumbers(t, "Ready", c.Ready(), 3)
	wantBytes(t, "Out", c.Out(), lay(replyBytes(7, 3, lay(uint16(0), uint64(4096), exportFlags)...), replyBytes(7, 1), simpleBytes(5, 1)))
}

// The second one: another magic.
func TestExampleOfAnotherMagic(t *testing.T) {
	c := begun(t, 2)
	request(t, c, read(1, 0, 512))
	request(t, c, read(2, 4096, 512))
	c.Send(2)
	give(t, c, make([]byte, 28))
	wantTook(t, "Take", c.Take(), api.Took{Kind: api.TookEnd})
	want(t, "Over", c.Over(), true)
	wantNumbers(t, "Pending", c.Pending())
	wantBytes(t, "Out", c.Out(), simpleBytes(22, 2))
	want(t, "Feed", c.Feed([]byte("x")), 0)
}

// The third one: a write that says 513 bytes.
func TestExampleOfALongWrite(t *testing.T) {
	c := begun(t, 2)
	give(t, c, requestBytes(api.Request{Type: api.CmdWrite, Length: 513}, false))
	wantTook(t, "Take", c.Take(), api.Took{Kind: api.TookEnd})
	want(t, "Over", c.Over(), true)
}

// The fourth one: DISC behind two reads.
func TestExampleOfDisc(t *testing.T) {
	c := begun(t, 3)
	request(t, c, read(1, 0, 512))
	request(t, c, read(2, 0, 512))
	wantTook(t, "DISC", request(t, c, disc()), api.Took{Kind: api.TookEnd})
	inPhase(t, "DISC", c, api.PhaseDrain)
	for id := 1; id <= 2; id++ {
		inPhase(t, "answers are missing", c, api.PhaseDrain)
		want(t, "Finish", c.Finish(id, well(c.Session(), read(uint64(id), 0, 512))), api.OK)
		want(t, "Send", c.Send(id), api.OK)
	}
	wantOver(t, "both are sent", c, 3, lay(simpleBytes(0, 1, many(512)...), simpleBytes(0, 2, many(512)...)))
}

// The fifth one: flags that may not be, and ABORT.
func TestExampleOfEnds(t *testing.T) {
	c := fresh(t, one(), small(2))
	give(t, c, flagBytes(8))
	wantEnd(t, "Flags(8)", c, api.Took{Kind: api.TookEnd}, greeting())
	c = haggling(t, one(), small(2), 3)
	give(t, c, option(api.OptAbort))
	wantEnd(t, "ABORT", c, api.Took{Kind: api.TookEnd, Code: 2}, replyBytes(2, 1))
}
