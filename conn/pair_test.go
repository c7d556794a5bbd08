package conn_test

import (
	"bytes"
	"fmt"
	"slices"
	"testing"

	"spindle/api"
	"spindle/conn"
)

// A pair is a connection and a plain one, of which the same is asked. What is handed in has spare room, must come back as it was, and is written over then; so is what is answered, behind being looked at (R4).
type pair struct {
	t    *testing.T
	c    *conn.Conn
	p    *plain
	what string
}

func newPair(t *testing.T, exports []api.Export, l api.Limits) *pair {
	t.Helper()
	handed := roomy(exports, export("spare", 1))
	before := slices.Clone(whole(handed))
	c := fresh(t, handed, l)
	wantSame(t, "what New was handed", whole(handed), before)
	spoil(handed, api.Export{Name: "spoilt", Sectors: -1})
	return &pair{t, c, newPlain(exports, l), "new"}
}

func (x *pair) feed(b []byte) int {
	x.t.Helper()
	handed := roomy(b, 0xaa)
	before := bytes.Clone(whole(handed))
	n := x.c.Feed(handed)
	want(x.t, x.what+": Feed", n, x.p.feed(b))
	wantBytes(x.t, x.what+": what Feed was handed", whole(handed), before)
	spoil(handed, 0xee)
	x.look()
	return n
}

func (x *pair) take() api.Took {
	x.t.Helper()
	took := x.c.Take()
	wanted := x.p.take()
	wantTook(x.t, x.what+": Take", took, wanted)
	spoil(took.Task.Req.Data, 0xed)
	x.look()
	return wanted
}

func (x *pair) task(id int) api.Errno {
	x.t.Helper()
	task, e := x.c.Task(id)
	wanted, f := x.p.task(id)
	want(x.t, fmt.Sprint(x.what, ": Task ", id), e, f)
	wantSame(x.t, fmt.Sprint(x.what, ": Task ", id), task, wanted)
	spoil(task.Req.Data, 0xec)
	return e
}

func (x *pair) finish(id int, o api.Outcome) api.Errno {
	x.t.Helper()
	handed, before := copied(o), copied(o)
	e := x.c.Finish(id, handed)
	want(x.t, fmt.Sprint(x.what, ": Finish ", id), e, x.p.finish(id, o))
	wantSame(x.t, x.what+": what Finish was handed", handed, before)
	spoilOutcome(handed)
	x.look()
	return e
}

// copied is an outcome anew, whose lists have spare room.
func copied(o api.Outcome) api.Outcome {
	o.Pieces = roomy(o.Pieces, api.Piece{Len: 7})
	for i := range o.Pieces {
		o.Pieces[i].Data = roomy(o.Pieces[i].Data, 0xaa)
	}
	o.Runs = roomy(o.Runs, nil)
	for i := range o.Runs {
		o.Runs[i] = roomy(o.Runs[i], api.StatusRun{Len: 7})
	}
	return o
}

func spoilOutcome(o api.Outcome) {
	for _, p := range o.Pieces {
		spoil(p.Data, 0xeb)
	}
	for _, l := range o.Runs {
		spoil(l, api.StatusRun{Len: 99, Flags: 99})
	}
	spoil(o.Pieces, api.Piece{Off: 99})
	spoil(o.Runs, nil)
}

func (x *pair) send(id int) api.Errno {
	x.t.Helper()
	e := x.c.Send(id)
	want(x.t, fmt.Sprint(x.what, ": Send ", id), e, x.p.send(id))
	x.look()
	return e
}

func (x *pair) out() []byte {
	x.t.Helper()
	b := x.c.Out()
	wanted := x.p.takeOut()
	wantBytes(x.t, x.what+": Out", b, wanted)
	spoil(b, 0xea)
	x.look()
	return wanted
}

func (x *pair) shut() {
	x.t.Helper()
	x.c.Shut()
	x.p.shut()
	x.look()
}

// look looks that all that is told of the two is the same.
func (x *pair) look() {
	x.t.Helper()
	wanted := x.p.look()
	got, pending, ready, s := x.c.Look(), x.c.Pending(), x.c.Ready(), x.c.Session()
	wantSame(x.t, x.what+": Look", got, wanted)
	wantNumbers(x.t, x.what+": Pending", pending, wanted.Pending...)
	wantNumbers(x.t, x.what+": Ready", ready, wanted.Ready...)
	wantSame(x.t, x.what+": Session", s, wanted.Session)
	want(x.t, x.what+": Over", x.c.Over(), wanted.Phase == api.PhaseOver)
	for _, list := range [][]int{got.Pending, got.Ready, pending, ready} {
		spoil(list, 99)
	}
	spoil(got.Session.Contexts, 98)
	spoil(s.Contexts, 97)
	if x.t.Failed() {
		x.t.FailNow()
	}
}

// begin leads a pair to the transmission with an export, in some form.
func (x *pair) begin(f form, name string) {
	x.t.Helper()
	x.feed(flagBytes(3))
	x.take()
	for _, ask := range f.asks(name) {
		x.feed(ask)
		x.take()
	}
	want(x.t, x.what+": the phase", x.p.phase, api.PhaseWork)
}
