package client_test

import (
	"bytes"
	"slices"
	"testing"

	"spindle/api"
)

// R4: what an asking is handed is not changed, with the room behind it, and not kept; what is said is new memory.
func TestAskingMemory(t *testing.T) {
	c := haggling(t, 3)
	data := roomy(many(50), 0xaa)
	before := bytes.Clone(whole(data))
	said, _ := c.Option(3, data)
	wantBytes(t, "what Option was handed", whole(data), before)
	spoil(data, 0xee)
	wantBytes(t, "what was said", said, optionBytes(3, many(50)...))
	spoil(said, 0xdd)
	wantBytes(t, "what Option was handed, and has been written over", data, of(50, 0xee))
	c.In(ackBytes(3))

	kinds := roomy([]uint16{3, 1}, 9)
	behind := slices.Clone(whole(kinds))
	said, _ = c.Info(false, api.InfoRequest{Name: "a", Infos: kinds})
	wantSame(t, "what Info was handed", whole(kinds), behind)
	spoil(kinds, 77)
	wantBytes(t, "what was said", said, optionBytes(6, infoData("a", 3, 1)...))
	c.In(replyBytes(6, api.RepUnknown))

	queries := roomy([]string{"x", "y"}, "spare")
	said, _ = c.Meta(true, api.MetaRequest{Name: "a", Queries: queries})
	want(t, "what Meta was handed", queries[0]+queries[1]+queries[:3][2], "xyspare")
	spoil(queries, "spoilt")
	wantBytes(t, "what was said", said, optionBytes(10, metaData("a", "x", "y")...))
	c.In(replyBytes(10, api.RepUnknown))

	goOn(t, c)
	payload := roomy(many(300), 0xaa)
	before = bytes.Clone(whole(payload))
	q := write(7, payload)
	said, _, _ = c.Request(q)
	wantBytes(t, "what Request was handed", whole(payload), before)
	spoil(payload, 0xee)
	q.Cookie, q.Data = 1, many(300)
	wantBytes(t, "what was said", said, requestBytes(q, false))
	spoil(said, 0xdd)
	wantBytes(t, "what Request was handed, and has been written over", payload, of(300, 0xee))
	wantOutstanding(t, "written over", c, outstanding(1, q))
	_ = append(said, many(50)...)
	other, _, _ := c.Request(api.Request{Type: api.CmdFlush})
	wantBytes(t, "another request", other, requestBytes(api.Request{Type: api.CmdFlush, Cookie: 2}, false))
}

// R4: the bytes that are heard are not changed and not kept, in whatever pieces they come: written over behind each In, they are heard as they were.
func TestHeardBytesMemory(t *testing.T) {
	for _, f := range forms() {
		list, said := conversation(f)
		for _, n := range []int{1, 7, 19, 64, 1000} {
			c, other := working(t, f), working(t, f)
			for _, q := range list {
				mustRequest(t, c, q)
				mustRequest(t, other, q)
			}
			wanted := other.In(said)
			room := make([]byte, 0, 2000)
			var heard []api.Event
			for b := said; len(b) > 0; b = b[min(n, len(b)):] {
				room = append(room[:0], b[:min(n, len(b))]...)
				before := bytes.Clone(whole(room))
				heard = append(heard, c.In(room)...)
				if !bytes.Equal(whole(room), before) {
					t.Error("the bytes, or the room behind them, have changed")
				}
				spoil(room, 0xee)
			}
			wantEvents(t, f.name, heard, wanted...)
		}
	}
}

// R4: events are new memory: what is written there comes into nothing that is heard later, no other event, and no bytes of the caller.
func TestEventsMemory(t *testing.T) {
	for _, f := range forms() {
		list, said := conversation(f)
		c, other := working(t, f), working(t, f)
		for _, q := range list {
			mustRequest(t, c, q)
			mustRequest(t, other, q)
		}
		wanted := other.In(said)
		half := len(said) / 2
		kept := bytes.Clone(said)
		first := c.In(said[:half])
		want(t, "some are heard", len(first) > 2, true)
		for i := range first {
			wantSame(t, "an event, the ones ahead of it spoilt", first[i], wanted[i])
			spoilEvents(first[i : i+1 : i+1])
			_ = append(first[i].Data, many(30)...)
		}
		wantBytes(t, "the bytes", said, kept)
		spoilEvents(first)
		wantEvents(t, f.name, c.In(said[half:]), wanted[len(first):]...)
	}
}

// R4: no two lists of one event share memory, with the room behind them.
func TestListsOfAnEventMemory(t *testing.T) {
	for _, f := range chunked() {
		c := waiting(t, f, status(16, 9))
		c.In(f.statusOf(0, 7, run{3, 1}, run{3, 0}, run{3, 2}))
		heard := c.In(f.statusOf(1, 1, run{5, 1}, run{4, 0}))
		list := heard[0].Status
		_ = append(list[0].Runs, api.StatusRun{Len: 77}, api.StatusRun{Len: 77})
		spoil(list[0].Runs, api.StatusRun{Len: 88})
		wantSame(t, f.name, list[1], runsOf(1, run{5, 1}, run{4, 0}))
		_ = append(list[1].Runs, api.StatusRun{Len: 77}, api.StatusRun{Len: 77})
		wantSame(t, f.name, list[0].Runs, []api.StatusRun{{Len: 88}, {Len: 88}, {Len: 88}})
	}
	c := outstandingOf(t, 6)
	info := lay(uint16(9), many(9))
	said := lay(replyBytes(6, 3, exportBody(1, 2)...), replyBytes(6, 3, info...), replyBytes(6, 3, info...))
	heard := c.In(said)
	spoil(said, 0xee)
	wantBytes(t, "an information", heard[1].Info.Data, many(9))
	spoil(heard[1].Info.Data, 0xdd)
	wantBytes(t, "another one", heard[2].Info.Data, many(9))
}

// R4: what an option's events told may be written over ahead of its acknowledgement: what is kept of it is the client's own.
func TestOptionEventsMemory(t *testing.T) {
	c := agreeing(t, form{chunks: true})
	mustAsk(t, c, 10)
	for _, id := range []uint32{4, 2} {
		spoilEvents(c.In(replyBytes(10, 4, metaBody(id, "x")...)))
	}
	spoilEvents(c.In(ackBytes(10)))
	mustAsk(t, c, 7)
	spoilEvents(c.In(replyBytes(7, 3, exportBody(77, 5)...)))
	wantEvents(t, "GO", c.In(ackBytes(7)), api.Event{Kind: api.EvAck, Option: 7}, started(77, 5))
	mustRequest(t, c, status(16, 4))
	last := stepped(t, "status", c, inChunks.statusOf(0, 2, run{4, 0}), inChunks.statusOf(1, 4, run{4, 0}))
	wantEvents(t, "both contexts", c.In(last), statusDone(runsOf(2, run{4, 0}), runsOf(4, run{4, 0})))
}
