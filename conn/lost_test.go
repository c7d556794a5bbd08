package conn_test

import (
	"fmt"
	"slices"
	"testing"

	"spindle/api"
	"spindle/conn"
)

// round serves a connection once, as W6 has it: each pending task is done, each ready answer leaves, then one message is taken.
func round(t *testing.T, c *conn.Conn) (sent []int, took api.Took) {
	t.Helper()
	for _, id := range c.Pending() {
		task, _ := c.Task(id)
		want(t, "Finish", c.Finish(id, well(c.Session(), task.Req)), api.OK)
	}
	for _, id := range c.Ready() {
		want(t, "Send", c.Send(id), api.OK)
		sent = append(sent, id)
	}
	return sent, c.Take()
}

// ends are what may stand behind the requests: nothing, a part of one, DISC, what is none.
func ends(extended bool) [][]byte {
	return [][]byte{nil, requestBytes(read(1, 0, 1), extended)[:20], requestBytes(disc(), extended), make([]byte, 32), requestBytes(api.Request{Type: api.CmdWrite, Flags: api.FlagPayload, Length: 1025}, extended)}
}

// W6, P14.12: each request that was taken, and each that stands whole ahead of what ends the connection, is answered just once, within as many rounds as messages are taken, and one more.
func TestAnsweredOnce(t *testing.T) {
	for _, f := range forms() {
		for _, flight := range []int{1, 2, 5, 64} {
			for kind, end := range ends(f.extended) {
				for _, taken := range []int{0, 1, flight / 2, flight} {
					what := fmt.Sprintf("%s, Flight %d, the end %d, %d taken ahead", f.name, flight, kind, taken)
					c := working(t, several(), wide(flight), f, "first")
					for range taken {
						request(t, c, read(1, 8192*uint64(taken%2), 8))
					}
					count := taken
					for c.Look().Inbox < 800 {
						q := rights(c.Session())[3+count%3]
						give(t, c, requestBytes(q, f.extended))
						count++
					}
					give(t, c, end)
					wantAllAnswered(t, what, c, taken, count)
				}
			}
		}
	}
}

// wantAllAnswered serves in rounds, and looks that the requests 1 to count, of which so many were taken ahead, are answered once each.
func wantAllAnswered(t *testing.T, what string, c *conn.Conn, taken, count int) {
	t.Helper()
	var sent []int
	messages, rounds, last := taken, 0, 0
	for range 2*count + 5 {
		rounds++
		now, took := round(t, c)
		sent = append(sent, now...)
		if len(now) > 0 {
			last = rounds
		}
		if took.Kind != api.TookNone {
			messages++
		}
	}
	slices.Sort(sent)
	var all []int
	for id := range count {
		all = append(all, id+1)
	}
	wantNumbers(t, what, sent, all...)
	want(t, what+": left", len(c.Pending())+len(c.Ready()), 0)
	if last > messages+1 {
		t.Errorf("%s: %d rounds for %d messages", what, last, messages)
	}
}

// P14.12: a request that was taken has a number and is pending or ready until its Send, whatever else is done and asked.
func TestTakenIsKept(t *testing.T) {
	d := dice(12)
	for _, flight := range []int{1, 3, 64} {
		c := working(t, several(), wide(flight), forms()[1], "first")
		kept := map[int]bool{} // by number: is it ready
		var said []byte
		for n := range 3000 {
			switch d.below(4) {
			case 0:
				if len(said) == 0 {
					said = requestBytes(read(uint64(n), pick[uint64](&d, 0, 8192), 2), false)
				}
				said = said[c.Feed(said):]
			case 1:
				if took := c.Take(); took.Kind == api.TookRequest {
					want(t, "a number that is new", took.Task.ID, c.Look().Next-1)
					kept[took.Task.ID] = took.Refused
				}
			case 2:
				if l := c.Pending(); len(l) > 0 {
					id := l[d.below(len(l))]
					want(t, "Finish", c.Finish(id, api.Outcome{Code: 5}), api.OK)
					kept[id] = true
				}
			case 3:
				if l := c.Ready(); len(l) > 0 {
					id := l[d.below(len(l))]
					want(t, "Send", c.Send(id), api.OK)
					delete(kept, id)
				}
			}
			var pending, ready []int
			for id, done := range kept {
				if done {
					ready = append(ready, id)
				} else {
					pending = append(pending, id)
				}
			}
			slices.Sort(pending)
			slices.Sort(ready)
			wantNumbers(t, "Pending", c.Pending(), pending...)
			wantNumbers(t, "Ready", c.Ready(), ready...)
			if t.Failed() {
				t.FailNow()
			}
		}
		if n := c.Look().Next; n < 300 {
			t.Error("only so many were taken: ", n-1)
		}
	}
}

// P14.12: with a full table bytes come in as far as there is room; none is lost, none is taken, and all come to be taken in order.
func TestFullTableLosesNothing(t *testing.T) {
	for _, flight := range []int{1, 2, 7} {
		c := begun(t, flight)
		var stream []byte
		for i := range 100 {
			stream = append(stream, requestBytes(write(uint64(i), 0, many(1+i%9)), false)...)
		}
		for id := 1; id <= 100 && !t.Failed(); {
			stream = stream[c.Feed(stream):]
			before := c.Look()
			took := c.Take()
			if len(before.Pending) == flight {
				wantTook(t, "full", took, api.Took{})
				wantLook(t, "full", c, before)
				oldest := before.Pending[0]
				want(t, "Finish", c.Finish(oldest, api.Outcome{}), api.OK)
				want(t, "Send", c.Send(oldest), api.OK)
				wantBytes(t, "Out", c.Out(), simpleBytes(0, uint64(oldest-1)))
				continue
			}
			wantTook(t, "in order", took, api.Took{Kind: api.TookRequest, Task: api.Task{ID: id, Req: write(uint64(id-1), 0, many(1+(id-1)%9))}})
			id++
		}
		want(t, "left", c.Look().Inbox+len(stream), 0)
	}
}
