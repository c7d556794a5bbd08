package server_test

import (
	"fmt"
	"testing"

	"spindle/api"
	"spindle/server"
)

// kinds are all kinds of steps.
func kinds() []api.StepKind {
	var out []api.StepKind
	for k := api.SOpen; k <= api.SClear; k++ {
		out = append(out, k)
	}
	return out
}

// noKinds are numbers that are no kind's.
func noKinds() []api.StepKind {
	return []api.StepKind{0, -1, 12, 13, 100, 1<<63 - 1, -1 << 63, -11}
}

// crowd gives a server with connections 0 to 3 in all phases: in work with a task, in work with an answer, among options, over.
func crowd(t *testing.T) *server.Server {
	t.Helper()
	s := started(t, filled(t), config(4, 4, 3))
	first := begun(t, s, form{}, "a")
	asked(t, s, first, read(0, 512))
	second := begun(t, s, form{structured: true}, "t")
	asked(t, s, second, read(0, 10000))
	mustStep(t, s, opens())
	mustStep(t, s, feeds(2, flagBytes(3)))
	mustStep(t, s, shuts(mustStep(t, s, opens()).Conn))
	return s
}

// P15.3: of what is no kind ErrStep, whatever else the step says, and whether it is up or down.
func TestNoKind(t *testing.T) {
	s := crowd(t)
	for range 2 {
		for _, k := range noKinds() {
			for _, c := range []int{-1, 0, 3, 99} {
				x := api.Step{Kind: k, Conn: c, N: c, Data: []byte("x"), Keep: []bool{true}, Fault: api.Fault{Kind: 1, Sector: -1, Times: 1}}
				wantRefused(t, fmt.Sprint("kind ", k), s, x, api.ErrStep)
			}
		}
		s.Step(falls())
	}
}

// P15.3: one that is down answers ErrDown to all but SFault and SStart, ahead of all other errors; one that is up ErrUp to SStart.
func TestUpAndDown(t *testing.T) {
	s := crowd(t)
	wantRefused(t, "SStart, up", s, rises(), api.ErrUp)
	mustStep(t, s, falls())
	for _, k := range kinds() {
		if k == api.SFault || k == api.SStart {
			continue
		}
		for _, c := range []int{-1, 0, 1, 2, 3, 4, 99} {
			wantRefused(t, fmt.Sprint("down: kind ", k), s, api.Step{Kind: k, Conn: c, N: c, Data: []byte("x")}, api.ErrDown)
		}
	}
	mustStep(t, s, fails(api.FaultRead, 0, 0))
	wantRefused(t, "a fault that may not be, down", s, fails(9, 0, 0), api.ErrFault)
	wantAnswer(t, "the fault is there", s.Step(rises()), api.Answer{Err: api.ErrIO})
	wantAnswer(t, "SStart", s.Step(rises()), api.Answer{})
	want(t, "Up", s.Up(), true)
	wantRefused(t, "SStart, up again", s, rises(), api.ErrUp)
}

// naming are steps that name a connection.
func naming(c int) []api.Step {
	return []api.Step{feeds(c, []byte("x")), takes(c), runs(c, 0), runs(c, -1), sends(c, 0), sends(c, 99), shuts(c)}
}

// P15.3: a connection that never was there, that is over, or that was there ahead of a crash: ErrConn, ahead of a wrong N.
func TestNoConnection(t *testing.T) {
	s := crowd(t)
	for _, c := range []int{-1, 3, 4, 99, -1 << 63, 1<<63 - 1} {
		for _, x := range naming(c) {
			wantRefused(t, fmt.Sprintf("connection %d, kind %d", c, x.Kind), s, x, api.ErrConn)
		}
	}
	mustStep(t, s, falls(true))
	mustStep(t, s, rises())
	for c := range 5 {
		for _, x := range naming(c) {
			wantRefused(t, fmt.Sprintf("behind a crash, connection %d, kind %d", c, x.Kind), s, x, api.ErrConn)
		}
	}
	want(t, "the next one", mustStep(t, s, opens()).Conn, 4)
	for c := range 4 {
		for _, x := range naming(c) {
			wantRefused(t, fmt.Sprintf("another is there, connection %d, kind %d", c, x.Kind), s, x, api.ErrConn)
		}
	}
	want(t, "the new one is there", mustStep(t, s, feeds(4, []byte("x"))).N, 1)
}

// P15.3: fields that a step's kind does not name are not looked at.
func TestOtherFields(t *testing.T) {
	for _, x := range []api.Step{opens(), feeds(0, []byte("abc")), takes(0), runs(0, 0), sends(1, 0), shuts(1), writes(), falls(true, false), clears(1)} {
		plainly, full := crowd(t), crowd(t)
		y := x
		if x.Kind != api.SFeed {
			y.Data = many(50)
		}
		if x.Kind != api.SCrash {
			y.Keep = []bool{true, true, true}
		}
		if x.Kind < api.SFeed || x.Kind > api.SShut {
			y.Conn = -7
		}
		if x.Kind != api.SRun && x.Kind != api.SSend && x.Kind != api.SClear {
			y.N = -7
		}
		y.Fault = api.Fault{Kind: api.FaultRead, Sector: -1, Times: 9}
		wantSame(t, fmt.Sprint("kind ", x.Kind), full.Step(y), plainly.Step(x))
		wantState(t, fmt.Sprint("kind ", x.Kind), full, stateOf(plainly))
	}
}

// P15.4: connections come until as many are there as may be; when one is over, however it ended, another may come; numbers go on.
func TestOpen(t *testing.T) {
	for _, most := range []int{1, 2, 3, api.MaxConns} {
		s := started(t, filled(t), config(4, most, 2))
		for n := range most {
			wantAnswer(t, "SOpen", s.Step(opens()), api.Answer{Conn: n, Out: greeting()})
			look, there := served(s, n)
			want(t, "it is there", there, true)
			wantSame(t, "it awaits flags, and its greeting has left", look, api.ConnLook{Phase: api.PhaseFlags, Next: 1})
		}
		next := most
		for _, ends := range []func(c int){
			func(c int) { mustStep(t, s, shuts(c)) },
			func(c int) { mustStep(t, s, feeds(c, flagBytes(99))); mustStep(t, s, takes(c)) },
			func(c int) {
				mustStep(t, s, feeds(c, lay(flagBytes(3), option(api.OptAbort))))
				mustStep(t, s, takes(c))
				mustStep(t, s, takes(c))
			},
		} {
			wantRefused(t, "one too many", s, opens(), api.ErrConns)
			ends(s.Look().Conns[0].Conn)
			want(t, "those that are there", len(s.Look().Conns), most-1)
			wantAnswer(t, "SOpen again", s.Step(opens()), api.Answer{Conn: next, Out: greeting()})
			next++
		}
		mustStep(t, s, falls())
		want(t, "the next one's number, down", s.Look().Next, next)
		mustStep(t, s, rises())
		want(t, "nobody is there", len(s.Look().Conns), 0)
		for n := range most {
			want(t, "behind a crash", mustStep(t, s, opens()).Conn, next+n)
		}
		wantRefused(t, "one too many, behind a crash", s, opens(), api.ErrConns)
	}
}

// P15.4: connections are told by rising number, whichever of them are over.
func TestThere(t *testing.T) {
	s := started(t, filled(t), config(4, 5, 2))
	numbers := func() string {
		var out []int
		for _, c := range s.Look().Conns {
			out = append(out, c.Conn)
		}
		return fmt.Sprint(out, s.Look().Next)
	}
	for range 5 {
		mustStep(t, s, opens())
	}
	want(t, "all", numbers(), "[0 1 2 3 4] 5")
	mustStep(t, s, shuts(2))
	want(t, "one less", numbers(), "[0 1 3 4] 5")
	mustStep(t, s, shuts(0))
	mustStep(t, s, opens())
	want(t, "another", numbers(), "[1 3 4 5] 6")
	mustStep(t, s, shuts(5))
	mustStep(t, s, shuts(4))
	want(t, "two less", numbers(), "[1 3] 6")
	mustStep(t, s, feeds(3, []byte("ab")))
	look, _ := served(s, 3)
	want(t, "bytes came to the right one", look.Inbox, 2)
}

// P15.5: bytes arrive as far as there is room; a message is taken, and what is said to it leaves in the same step.
func TestFeedAndTake(t *testing.T) {
	s := started(t, filled(t), api.Config{Lines: 2, Conns: 2, Limits: api.Limits{Payload: 512, Option: 64, Flight: 1}})
	mustStep(t, s, opens())
	wantAnswer(t, "no bytes", s.Step(feeds(0, nil)), api.Answer{})
	wantAnswer(t, "nothing to be taken", s.Step(takes(0)), api.Answer{})
	wantAnswer(t, "more than there is room for", s.Step(feeds(0, lay(flagBytes(1), make([]byte, 600)))), api.Answer{N: 544})
	wantAnswer(t, "full", s.Step(feeds(0, []byte("x"))), api.Answer{})
	wantAnswer(t, "flags", s.Step(takes(0)), api.Answer{Took: api.Took{Kind: api.TookFlags}})
	wantAnswer(t, "room again", s.Step(feeds(0, []byte("xxxxx"))), api.Answer{N: 4})
	wantAnswer(t, "no option: it is over", s.Step(takes(0)), api.Answer{Took: api.Took{Kind: api.TookEnd}})
	wantRefused(t, "over", s, takes(0), api.ErrConn)

	c := mustStep(t, s, opens()).Conn
	mustStep(t, s, feeds(c, lay(flagBytes(3), option(api.OptList), option(api.OptAbort))))
	mustStep(t, s, takes(c))
	var list []byte
	for _, e := range several() {
		list = append(list, replyBytes(api.OptList, api.RepServer, lay(uint32(len(e.Name)), e.Name)...)...)
	}
	wantAnswer(t, "LIST", s.Step(takes(c)), api.Answer{Took: api.Took{Kind: api.TookOption, Code: api.OptList}, Out: lay(list, replyBytes(api.OptList, api.RepAck))})
	wantAnswer(t, "ABORT: what is said to it leaves with it", s.Step(takes(c)), api.Answer{Took: api.Took{Kind: api.TookEnd, Code: api.OptAbort}, Out: replyBytes(api.OptAbort, api.RepAck)})
	wantRefused(t, "over", s, takes(c), api.ErrConn)
}

// P15.5: with as many tasks as may be nothing is taken, and nothing is lost.
func TestTakeWithAFullTable(t *testing.T) {
	s := started(t, filled(t), config(4, 2, 1))
	c := begun(t, s, form{}, "a")
	asked(t, s, c, read(0, 512))
	mustStep(t, s, feeds(c, requestBytes(read(512, 512), false)))
	for range 2 {
		wantAnswer(t, "full", s.Step(takes(c)), api.Answer{})
	}
	mustStep(t, s, runs(c, 0))
	wantAnswer(t, "done, and not sent", s.Step(takes(c)), api.Answer{})
	mustStep(t, s, sends(c, 0))
	want(t, "sent", mustStep(t, s, takes(c)).Took.Task.ID, 2)
}

// P15.6, P15.7: with several tasks any one may be done, and any answer leave; N counts those that are pending, and those that are ready, from 0 on.
func TestRunAndSend(t *testing.T) {
	s := started(t, filled(t), config(4, 2, 4))
	c := begun(t, s, form{}, "a")
	for i := range 4 {
		asked(t, s, c, read(uint64(512*i), 512))
	}
	for _, n := range []int{-1, 4, 5, -1 << 63, 1<<63 - 1} {
		wantRefused(t, fmt.Sprint("SRun ", n), s, runs(c, n), api.ErrStep)
	}
	wantRefused(t, "SSend, nothing is ready", s, sends(c, 0), api.ErrStep)
	for _, step := range []struct{ n, task int }{{3, 4}, {1, 2}, {0, 1}} {
		wantAnswer(t, fmt.Sprint("SRun ", step.n), s.Step(runs(c, step.n)), api.Answer{N: step.task})
	}
	wantRefused(t, "SRun at their number", s, runs(c, 1), api.ErrStep)
	for _, n := range []int{-1, 3, 4, -1 << 63, 1<<63 - 1} {
		wantRefused(t, fmt.Sprint("SSend ", n), s, sends(c, n), api.ErrStep)
	}
	wantAnswer(t, "SSend 1", s.Step(sends(c, 1)), api.Answer{N: 2, Out: simpleBytes(0, read(512, 512).Cookie, of(512, 'b')...)})
	wantAnswer(t, "SSend 1", s.Step(sends(c, 1)), api.Answer{N: 4, Out: simpleBytes(0, read(1536, 512).Cookie, make([]byte, 512)...)})
	wantAnswer(t, "SRun 0", s.Step(runs(c, 0)), api.Answer{N: 3})
	wantAnswer(t, "SSend 0", s.Step(sends(c, 0)), api.Answer{N: 1, Out: simpleBytes(0, read(0, 512).Cookie, make([]byte, 512)...)})
	wantAnswer(t, "SSend 0", s.Step(sends(c, 0)), api.Answer{N: 3, Out: simpleBytes(0, read(1024, 512).Cookie, of(512, 'c')...)})
	wantRefused(t, "SRun, nothing waits", s, runs(c, 0), api.ErrStep)
	wantRefused(t, "SSend, nothing waits", s, sends(c, 0), api.ErrStep)
}

// P15.6, P15.7: a connection that drains still has its tasks done and its answers sent, and is there until the last has left.
func TestDraining(t *testing.T) {
	s := started(t, filled(t), config(4, 1, 4))
	c := begun(t, s, form{}, "a")
	asked(t, s, c, read(512, 3))
	asked(t, s, c, read(0, 9999))
	mustStep(t, s, feeds(c, requestBytes(api.Request{Type: api.CmdDisc}, false)))
	wantAnswer(t, "DISC", s.Step(takes(c)), api.Answer{Took: api.Took{Kind: api.TookEnd}})
	want(t, "it takes no bytes", mustStep(t, s, feeds(c, []byte("x"))).N, 0)
	wantAnswer(t, "SSend", s.Step(sends(c, 0)), api.Answer{N: 2, Out: simpleBytes(api.EInval, read(0, 9999).Cookie)})
	wantRefused(t, "it is there", s, opens(), api.ErrConns)
	wantAnswer(t, "SRun", s.Step(runs(c, 0)), api.Answer{N: 1})
	wantAnswer(t, "the last answer leaves", s.Step(sends(c, 0)), api.Answer{N: 1, Out: simpleBytes(0, read(512, 3).Cookie, 'b', 'b', 'b')})
	wantRefused(t, "it is over", s, sends(c, 0), api.ErrConn)
	want(t, "another may come", mustStep(t, s, opens()).Conn, 1)
}

// P15.7: SShut cuts a connection in every phase; its tasks are gone, done or not; what was done stays done, and no other connection knows of it.
func TestShut(t *testing.T) {
	s := crowd(t)
	asked(t, s, 0, write(0, []byte("xyz")))
	mustStep(t, s, runs(0, 1))
	asked(t, s, 0, write(512, []byte("never")))
	before := stateOf(s)
	for c := range 3 {
		wantAnswer(t, "SShut", s.Step(shuts(c)), api.Answer{})
		wantRefused(t, "SShut again", s, shuts(c), api.ErrConn)
		before.look.Conns = before.look.Conns[1:]
		wantState(t, "the others", s, before)
	}
	want(t, "what was done", string(peeked(t, s, volumeAt)[:3]), "xyz")
}
