package conn_test

import (
	"fmt"
	"math"
	"slices"
	"testing"

	"spindle/api"
	"spindle/reply"
)

// never are numbers that no task of these tests gets.
var never = []int{0, -1, -2, math.MinInt, math.MaxInt, 1 << 32, 1<<32 + 1, 99}

// P14.4, P14.5, P14.6: numbers that were never given, of pending tasks, of ready ones, and of those that were sent.
func TestNumbers(t *testing.T) {
	for _, f := range forms() {
		c := working(t, several(), wide(4), f, "first")
		s := c.Session()
		none := func(what string, ids ...int) {
			t.Helper()
			before := c.Look()
			for _, id := range ids {
				wantNoTask(t, what, c, id)
				for _, o := range []api.Outcome{{}, {Code: 5}, well(s, read(1, 0, 512)), {Placed: true}} {
					want(t, fmt.Sprint(what, ": Finish ", id), c.Finish(id, o), api.ErrTask)
				}
			}
			wantLook(t, what, c, before)
		}
		unsent := func(what string, ids ...int) {
			t.Helper()
			before := c.Look()
			for _, id := range ids {
				want(t, fmt.Sprint(what, ": Send ", id), c.Send(id), api.ErrTask)
			}
			wantLook(t, what, c, before)
		}
		none("nothing was taken", append(never, 1, 2)...)
		unsent("nothing was taken", append(never, 1, 2)...)
		for i := range 4 {
			request(t, c, read(uint64(i), 8192*uint64(i%2), 512))
		}
		none("2 and 4 were refused", append(never, 2, 4, 5)...)
		unsent("1 and 3 are pending", append(never, 1, 3, 5)...)
		wantTask(t, "1", c, 1, read(0, 0, 512))
		wantTask(t, "3", c, 3, read(2, 0, 512))
		want(t, "Finish 3", c.Finish(3, api.Outcome{Code: 28}), api.OK)
		none("3 is ready", append(never, 2, 3, 4, 5)...)
		unsent("3 is ready", append(never, 1, 5)...)
		want(t, "Send 3", c.Send(3), api.OK)
		none("3 was sent", append(never, 2, 3, 4, 5)...)
		unsent("3 was sent", append(never, 1, 3, 5)...)
		wantNumbers(t, "Pending", c.Pending(), 1)
		wantNumbers(t, "Ready", c.Ready(), 2, 4)
		wantBytes(t, "Out", c.Out(), refusalBytes(s, read(2, 0, 512), 28))
		wantTook(t, "the next", request(t, c, read(8, 0, 1)), api.Took{Kind: api.TookRequest, Task: api.Task{ID: 5, Req: read(8, 0, 1)}})
	}
}

// P14.5: a task is ready with reply's bytes of its outcome, which leave as they are, once.
func TestFinish(t *testing.T) {
	for _, f := range forms() {
		c := working(t, several(), wide(2), f, "first")
		s := c.Session()
		id := 0
		for i, q := range rights(s) {
			outcomes := []api.Outcome{well(s, q), {Code: api.EIO}, {Code: max32}}
			if q.Length > 0 {
				outcomes = append(outcomes, api.Outcome{Code: api.EIO, Placed: true, At: q.Offset + q.Length - 1})
			}
			if q.Type == api.CmdRead && q.Length > 1 {
				half := uint32(q.Length / 2)
				outcomes = append(outcomes, api.Outcome{Pieces: []api.Piece{{Off: q.Offset, Len: half, Hole: true}, {Off: q.Offset + uint64(half), Len: half, Data: many(int(half))}}})
			}
			for k, o := range outcomes {
				what := fmt.Sprintf("%s: request %d, outcome %d", f.name, i, k)
				id++
				request(t, c, q)
				answer, e := reply.Bytes(s, q, o)
				want(t, what+": reply", e, api.OK)
				want(t, what, c.Finish(id, o), api.OK)
				wantLook(t, what, c, api.ConnLook{Phase: api.PhaseWork, Session: s, Ready: []int{id}, Next: id + 1})
				want(t, what+": again", c.Finish(id, o), api.ErrTask)
				want(t, what+": Send", c.Send(id), api.OK)
				want(t, what+": Send again", c.Send(id), api.ErrTask)
				wantLook(t, what, c, api.ConnLook{Phase: api.PhaseWork, Session: s, Outbox: len(answer), Next: id + 1})
				wantBytes(t, what, c.Out(), answer)
			}
		}
	}
}

// wrongOutcomes are some that no request, but a read or a status of that length, can have come to.
func wrongOutcomes(q api.Request) []api.Outcome {
	piece := api.Piece{Off: q.Offset, Len: uint32(q.Length), Hole: true}
	run := []api.StatusRun{{Len: q.Length}}
	out := []api.Outcome{
		{Code: 5, At: 1}, {Code: 5, Placed: true, At: q.Offset + q.Length}, {Code: 5, Placed: true, At: q.Offset - 1}, {Placed: true}, {At: 1},
		{Code: 5, Pieces: []api.Piece{piece}}, {Code: 5, Runs: [][]api.StatusRun{run}}, {Pieces: []api.Piece{piece}, Runs: [][]api.StatusRun{run}}, {Pieces: []api.Piece{piece, piece}},
		{Pieces: []api.Piece{{Off: q.Offset + 1, Len: uint32(q.Length), Hole: true}}}, {Pieces: []api.Piece{{Off: q.Offset, Len: uint32(q.Length) + 1, Hole: true}}},
		{Pieces: []api.Piece{{Off: q.Offset, Len: uint32(q.Length), Data: many(int(q.Length + 1))}}}, {Runs: [][]api.StatusRun{nil}}, {Runs: [][]api.StatusRun{run, run, run, run}},
		{Runs: [][]api.StatusRun{{{Len: q.Length + 1}}, {{Len: q.Length + 1}}}},
	}
	if q.Type == api.CmdRead || q.Type == api.CmdStatus {
		out = append(out, api.Outcome{})
	}
	if q.Type != api.CmdRead {
		out = append(out, api.Outcome{Pieces: []api.Piece{piece}})
	}
	if q.Type != api.CmdStatus {
		out = append(out, api.Outcome{Runs: [][]api.StatusRun{run}}, api.Outcome{Runs: [][]api.StatusRun{run, run}})
	}
	return out
}

// P14.5, R2: an outcome that does not fit is refused, and the task is pending as it was.
func TestFinishWithWrongOutcomes(t *testing.T) {
	for _, f := range forms() {
		c := working(t, several(), wide(64), f, "first")
		s := c.Session()
		for i, q := range rights(s) {
			id := i + 1
			request(t, c, q)
			before := c.Look()
			for k, o := range wrongOutcomes(q) {
				what := fmt.Sprintf("%s: request %d, outcome %d", f.name, i, k)
				want(t, what+": reply", reply.Fits(s, q, o), api.ErrOutcome)
				want(t, what, c.Finish(id, o), api.ErrOutcome)
				wantLook(t, what, c, before)
				want(t, what+": Send", c.Send(id), api.ErrTask)
			}
			wantTask(t, f.name, c, id, q)
		}
		for i, q := range rights(s) {
			answer, _ := reply.Bytes(s, q, well(s, q))
			want(t, f.name+": at last", c.Finish(i+1, well(s, q)), api.OK)
			want(t, f.name+": at last", c.Send(i+1), api.OK)
			wantBytes(t, f.name+": at last", c.Out(), answer)
		}
	}
}

// P14.6, P14.13: answers leave in the order of their Sends, whole, behind what is there.
func TestSendInAnyOrder(t *testing.T) {
	orders := [][]int{{1, 2, 3}, {1, 3, 2}, {2, 1, 3}, {2, 3, 1}, {3, 1, 2}, {3, 2, 1}}
	for _, f := range forms() {
		for _, finished := range orders {
			for _, sent := range orders {
				c := working(t, several(), wide(3), f, "first")
				s := c.Session()
				for id := range 3 {
					request(t, c, read(uint64(id+1), 0, uint64(id+1)))
				}
				for _, id := range finished {
					want(t, "Finish", c.Finish(id, well(s, read(uint64(id), 0, uint64(id)))), api.OK)
				}
				wantNumbers(t, "Ready", c.Ready(), 1, 2, 3)
				var said []byte
				for _, id := range sent {
					want(t, "Send", c.Send(id), api.OK)
					q := read(uint64(id), 0, uint64(id))
					answer, _ := reply.Bytes(s, q, well(s, q))
					said = append(said, answer...)
					want(t, "Outbox", c.Look().Outbox, len(said))
				}
				wantBytes(t, fmt.Sprint(f.name, finished, sent), c.Out(), said)
			}
		}
	}
}

// P14.8: the numbers rise, whatever the order of the Finishes.
func TestPendingAndReady(t *testing.T) {
	c := begun(t, 64)
	for i := range 64 {
		request(t, c, read(uint64(i), 0, 512))
	}
	var waiting, ready []int
	for id := range 64 {
		waiting = append(waiting, id+1)
	}
	for _, id := range []int{64, 1, 33, 2, 63, 32, 10, 9, 8} {
		want(t, "Finish", c.Finish(id, api.Outcome{Code: 5}), api.OK)
		var left []int
		ready = nil
		for _, w := range waiting {
			if w != id {
				left = append(left, w)
			}
		}
		waiting = left
		for n := 1; n <= 64; n++ {
			if !slices.Contains(waiting, n) {
				ready = append(ready, n)
			}
		}
		wantNumbers(t, "Pending", c.Pending(), waiting...)
		wantNumbers(t, "Ready", c.Ready(), ready...)
	}
}

// P14.3: numbers are never given anew, neither behind a Send nor where cookies are alike.
func TestNumbersAreNeverGivenAnew(t *testing.T) {
	c := begun(t, 2)
	for id := 1; id < 200; id++ {
		want(t, "the number", request(t, c, read(7, 0, 512)).Task.ID, id)
		want(t, "Next", c.Look().Next, id+1)
		want(t, "Finish", c.Finish(id, api.Outcome{Code: 5}), api.OK)
		want(t, "Send", c.Send(id), api.OK)
	}
}
