package conn_test

import (
	"fmt"
	"testing"

	"spindle/api"
	"spindle/conn"
)

// A record is all that a connection has told: what was taken, what left, and how it stands at last.
type record struct {
	tooks []api.Took
	said  []byte
	look  api.ConnLook
}

// A player plays what a client says to a connection, in pieces of its own, and asks in vain as often as it likes.
type player struct {
	piece func() int  // how many bytes it feeds next
	asks  func() int  // how often it asks for a message then
	hears func() bool // whether it lets leave what waits
}

// busyTable tells whether nothing can be taken for want of a place.
func busyTable(c *conn.Conn, l api.Limits) bool {
	return len(c.Pending())+len(c.Ready()) == l.Flight
}

// serve finishes and sends some, which hang on n alone; of a table that is not empty one at least.
func serve(t *testing.T, c *conn.Conn, n int) {
	t.Helper()
	d := dice(n)
	for range 1 + d.below(3) {
		if l := c.Pending(); len(l) > 0 {
			task, e := c.Task(l[d.below(len(l))])
			want(t, "Task", e, api.OK)
			o := api.Outcome{Code: api.EIO}
			if task.Req.Length < 5000 && d.below(4) > 0 {
				o = well(c.Session(), task.Req)
			}
			want(t, "Finish", c.Finish(task.ID, o), api.OK)
		}
		if l := c.Ready(); len(l) > 0 {
			want(t, "Send", c.Send(l[d.below(len(l))]), api.OK)
		}
	}
}

// play gives a connection all that a client says, takes all that can be taken, and serves behind each message that was taken.
func (p player) play(t *testing.T, exports []api.Export, l api.Limits, stream []byte) record {
	t.Helper()
	c := fresh(t, exports, l)
	var r record
	for {
		for range p.asks() {
			if took := c.Take(); took.Kind != api.TookNone {
				r.tooks = append(r.tooks, took)
				serve(t, c, len(r.tooks))
			} else if busyTable(c, l) {
				stream = stream[c.Feed(stream[:min(len(stream), p.piece())]):]
				wantVain(t, "a full table", c)
				serve(t, c, -len(r.tooks))
			}
			if p.hears() {
				r.said = append(r.said, c.Out()...)
			}
		}
		fed := c.Feed(stream[:min(len(stream), p.piece())])
		stream = stream[fed:]
		if len(stream) == 0 || c.Look().Phase > api.PhaseWork || t.Failed() {
			break
		}
	}
	// Whatever the pieces were: what is there is taken to its end.
	for took := c.Take(); (took.Kind != api.TookNone || busyTable(c, l)) && !t.Failed(); took = c.Take() {
		if took.Kind == api.TookNone {
			serve(t, c, -len(r.tooks))
			continue
		}
		r.tooks = append(r.tooks, took)
		serve(t, c, len(r.tooks))
	}
	r.said = append(r.said, c.Out()...)
	r.look = c.Look()
	return r
}

// steady gives a player that always does the same.
func steady(piece, asks int, hears bool) player {
	return player{func() int { return piece }, func() int { return asks }, func() bool { return hears }}
}

// inPieces gives players: all at once, byte by byte, and thrown ones.
func inPieces(d *dice) []player {
	all := []player{steady(1<<20, 1, false), steady(1, 1, true), steady(1, 3, false), steady(1<<20, 9, true)}
	for _, most := range []int{3, 30, 300} {
		all = append(all, player{func() int { return 1 + d.below(most) }, func() int { return d.below(5) }, d.bool})
	}
	return all
}

// thrownStream throws for all that a client says: flags, options, and, if they lead there, requests; at the end perhaps what ends the connection.
func thrownStream(d *dice, exports []api.Export, l api.Limits) []byte {
	x := newPlain(exports, l)
	var stream []byte
	say := func(b []byte) {
		stream = append(stream, b...)
		for len(b) > 0 && x.phase <= api.PhaseWork {
			b = b[x.feed(b):]
			x.take()
			x.tasks = nil
		}
	}
	say(flagBytes(pick[uint32](d, 3, 3, 3, 1)))
	for range d.below(5) {
		say(thrownOption(d, exports))
	}
	if x.phase == api.PhaseOptions {
		say(goTo(exports[d.below(len(exports))].Name))
	}
	for range 3 + d.below(25) {
		say(thrownMessage(d, x))
	}
	return stream
}

// P14.11: whatever pieces the bytes come in, and however often Take is asked in vain, the same is taken, and the same leaves.
func TestPieces(t *testing.T) {
	d := dice(1411)
	taken := 0
	for run := range 600 {
		exports, l := pick(&d, one(), several()), thrownLimits(&d)
		stream := thrownStream(&d, exports, l)
		var first record
		for i, p := range inPieces(&d) {
			r := p.play(t, exports, l, stream)
			if i == 0 {
				first = r
				taken += len(r.tooks)
			}
			what := fmt.Sprintf("run %d, player %d", run, i)
			wantSame(t, what+": taken", r.tooks, first.tooks)
			wantBytes(t, what+": said", r.said, first.said)
			wantSame(t, what+": Look", r.look, first.look)
			if t.Failed() {
				t.FailNow()
			}
		}
	}
	if taken < 4000 {
		t.Error("only so many messages were taken: ", taken)
	}
}

// P14.11: a stream divided in two, at each of its bytes, and asked in between.
func TestTwoPieces(t *testing.T) {
	for _, f := range forms() {
		w := write(3, 0, many(20))
		if f.extended {
			w.Flags = api.FlagPayload
		}
		stream := flagBytes(3)
		for _, ask := range f.asks("first") {
			stream = append(stream, ask...)
		}
		for _, q := range []api.Request{read(1, 0, 512), read(2, max64, 512), w, disc(), read(4, 0, 1)} {
			stream = append(stream, requestBytes(q, f.extended)...)
		}
		first := steady(len(stream), 1, false).play(t, several(), wide(2), stream)
		want(t, f.name+": taken", len(first.tooks), 1+len(f.asks("first"))+4)
		for n := range stream {
			what := fmt.Sprintf("%s, divided at %d", f.name, n)
			p, fed := steady(0, 12, true), 0
			p.piece = func() int {
				fed++
				return []int{n, len(stream)}[min(fed, 2)-1]
			}
			r := p.play(t, several(), wide(2), stream)
			wantSame(t, what+": taken", r.tooks, first.tooks)
			wantBytes(t, what+": said", r.said, first.said)
			wantSame(t, what+": Look", r.look, first.look)
		}
	}
}
