package conn_test

import (
	"bytes"
	"slices"
	"testing"

	"spindle/api"
	"spindle/conn"
)

// R4: the exports that are handed in are not changed, with the room behind them, and not kept: neither options nor rules see what is done to them later.
func TestExportsMemory(t *testing.T) {
	handed := roomy(several(), export("spare", 9))
	before := slices.Clone(whole(handed))
	c := fresh(t, handed, wide(4))
	conn.New(handed, api.Limits{})
	give(t, c, lay(flagBytes(3), option(api.OptList)))
	c.Take()
	c.Take()
	if !slices.Equal(whole(handed), before) {
		t.Error("the exports, or the room behind them, have changed")
	}
	spoil(handed, api.Export{Name: "spoilt", Sectors: 1, ReadOnly: true, Min: 512})
	first := c.Out()
	give(t, c, option(api.OptList))
	c.Take()
	wantBytes(t, "LIST", c.Out(), first[18:])
	give(t, c, lay(goTo("first"), requestBytes(write(1, 8000, []byte("x")), false)))
	want(t, "GO", c.Take().Kind, api.TookOption)
	want(t, "a write", c.Take().Refused, false)
	spoil(handed, api.Export{})
	want(t, "another", request(t, c, write(2, 8191, []byte("x"))).Refused, false)
}

// R4: the bytes that are fed are not changed and not kept, those that there is no room for neither.
func TestFeedMemory(t *testing.T) {
	c := begun(t, 4)
	shared := make([]byte, 0, 600)
	for i := range 4 {
		q := write(uint64(i), uint64(i), many(100+i))
		shared = append(shared[:0], requestBytes(q, false)...)
		before := bytes.Clone(whole(shared))
		give(t, c, shared[:50])
		give(t, c, shared[50:])
		wantBytes(t, "what was fed", whole(shared), before)
		spoil(shared, 0xee)
		wantTook(t, "written over ahead of Take", c.Take(), api.Took{Kind: api.TookRequest, Task: api.Task{ID: i + 1, Req: q}})
		spoil(shared, 0xdd)
		wantTask(t, "written over behind it", c, i+1, q)
	}
	long := many(5000)
	c.Feed(long)
	wantBytes(t, "more than there is room for", long, many(5000))
}

// R4: what Take, Task and Finish are told and tell is nobody else's.
func TestTaskMemory(t *testing.T) {
	c := begun(t, 3)
	q := write(1, 0, many(300))
	took := request(t, c, q)
	spoil(took.Task.Req.Data, 0xee)
	_ = append(took.Task.Req.Data, many(50)...)
	wantTask(t, "what Take told is written over", c, 1, q)
	first, _ := c.Task(1)
	second, _ := c.Task(1)
	spoil(first.Req.Data, 0xdd)
	wantSame(t, "what another Task told", second, api.Task{ID: 1, Req: q})
	wantTask(t, "what Task told is written over", c, 1, q)
	request(t, c, q)
	wantTask(t, "another request", c, 1, q)
}

// R4: an outcome is not changed and not kept, the lists in its lists neither; the answer is what it was when Finish came.
func TestOutcomeMemory(t *testing.T) {
	for _, f := range forms() {
		c := working(t, several(), wide(8), f, "first")
		s := c.Session()
		list := []api.Request{read(1, 0, 512), read(2, 512, 512)}
		if len(s.Contexts) > 0 {
			list = append(list, api.Request{Type: api.CmdStatus, Cookie: 3, Length: 512})
		}
		var wanted []byte
		for i, q := range list {
			request(t, c, q)
			o := copied(well(s, q))
			before := copied(o)
			want(t, f.name+": Finish", c.Finish(i+1, o), api.OK)
			wantSame(t, f.name+": what was handed in", o, before)
			spoilOutcome(o)
			other := working(t, several(), wide(8), f, "first")
			request(t, other, q)
			other.Finish(1, well(s, q))
			other.Send(1)
			wanted = append(wanted, other.Out()...)
		}
		for i := range list {
			want(t, f.name+": Send", c.Send(i+1), api.OK)
		}
		wantBytes(t, f.name+": what leaves", c.Out(), wanted)
	}
}

// R4: what Out gave is the caller's: what is written there, or behind it, comes into nothing that leaves later, and what leaves later comes not there.
func TestOutMemory(t *testing.T) {
	c := fresh(t, one(), small(3))
	var outs, kept [][]byte
	hear := func() {
		b := c.Out()
		outs, kept = append(outs, b), append(kept, bytes.Clone(b))
	}
	hear()
	give(t, c, lay(flagBytes(3), option(api.OptList), goTo("a")))
	for range 3 {
		c.Take()
		hear()
	}
	for i := range 3 {
		request(t, c, read(uint64(i), 0, 16))
		c.Finish(i+1, well(api.Session{}, read(uint64(i), 0, 16)))
	}
	for i := range 3 {
		c.Send(i + 1)
		hear()
	}
	for i, b := range outs {
		wantBytes(t, "what was given earlier", b, kept[i])
	}
	request(t, c, read(9, 0, 16))
	c.Finish(4, well(api.Session{}, read(9, 0, 16)))
	for _, b := range outs {
		spoil(b, 0xee)
		_ = append(b, many(30)...)
	}
	c.Send(4)
	first := c.Out()
	wantBytes(t, "the next answer", first, simpleBytes(0, 9, many(16)...))
	spoil(first, 0xcc)
	fresher := fresh(t, one(), small(3))
	wantBytes(t, "another connection's greeting", fresher.Out(), greeting())
}

// R4: what waits in the outbox is not an answer's memory that somebody has.
func TestSendMemory(t *testing.T) {
	c := begun(t, 2)
	request(t, c, read(1, 0, 8))
	c.Finish(1, well(api.Session{}, read(1, 0, 8)))
	request(t, c, read(2, 4096, 8))
	c.Send(1)
	look := c.Look()
	spoil(look.Ready, 77)
	c.Send(2)
	wantBytes(t, "Out", c.Out(), lay(simpleBytes(0, 1, many(8)...), simpleBytes(22, 2)))
}

// R4: the lists that Pending, Ready, Session and Look tell are new ones each time, and no two of one answer share any.
func TestTellingMemory(t *testing.T) {
	c := working(t, several(), wide(8), forms()[4], "first")
	for i := range 6 {
		request(t, c, read(uint64(i), 8192*uint64(i%2), 16))
	}
	before, other := c.Look(), c.Look()
	want(t, "contexts", len(before.Session.Contexts), 3)
	for _, list := range [][]int{c.Pending(), c.Ready(), other.Pending} {
		spoil(list, 99)
		_ = append(list, 98, 97)
	}
	wantNumbers(t, "another list of the same answer", other.Ready, 2, 4, 6)
	spoil(other.Ready, 96)
	spoil(other.Session.Contexts, 95)
	s := c.Session()
	spoil(s.Contexts, 94)
	wantLook(t, "written over", c, before)
	wantNumbers(t, "Pending", c.Pending(), 1, 3, 5)
	wantNumbers(t, "Ready", c.Ready(), 2, 4, 6)
	wantSame(t, "Session", c.Session(), before.Session)
	want(t, "a status is still told of three contexts", request(t, c, api.Request{Type: api.CmdStatus, Length: 16}).Refused, false)
}
