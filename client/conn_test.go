package client_test

import (
	"bytes"
	"fmt"
	"slices"
	"strings"
	"testing"

	"spindle/api"
	"spindle/client"
	"spindle/conn"
	"spindle/frame"
)

// P16.9: what a client says an inbox cuts again, message by message, whatever pieces it comes in.
func TestSaidIsCut(t *testing.T) {
	d := dice(19)
	for _, f := range forms() {
		inbox, _ := frame.New(api.MaxInbox)
		hears := func(b []byte) {
			for _, piece := range thrownPieces(&d)(b) {
				want(t, "Feed", inbox.Feed(piece), len(piece))
			}
		}
		c := greeted(t, 3)
		b, _ := c.Flags(3)
		hears(b)
		flags, cut := inbox.Flags()
		want(t, "the flags", flags == 3 && cut == api.CutDone, true)
		options := []uint32{3, 77}
		if f.extended {
			options = append(options, 11)
		}
		for _, code := range options {
			data := many(d.below(api.MaxOption + 1))
			b, _ = c.Option(code, data)
			hears(b)
			o, cut := inbox.Option(api.MaxOption)
			want(t, "cut", cut, api.CutDone)
			wantSame(t, "an option", o, api.Option{Code: code, Len: uint32(len(data)), Data: data})
			c.In(ackBytes(code))
		}
		goOn(t, c)
		var all []byte
		var list []api.Request
		for len(list) < 200 {
			q := thrownRequest(&d, &plain{extended: f.extended})
			if q.Type == api.CmdDisc {
				continue
			}
			b, cookie, e := c.Request(q)
			if e != api.OK {
				continue
			}
			q.Cookie = cookie
			if f.extended && q.Type == api.CmdWrite {
				q.Flags |= api.FlagPayload
			}
			all, list = append(all, b...), append(list, q)
		}
		hears(all)
		for _, q := range list {
			got, cut := inbox.Request(api.MaxPayload, f.extended)
			want(t, "cut", cut, api.CutDone)
			wantSame(t, "a request", got, q)
		}
		want(t, "nothing is left", inbox.Held(), 0)
	}
}

// A talk is a client over a connection of layer 14. What either says comes to the other in any pieces.
type talk struct {
	t    *testing.T
	d    *dice
	c    *client.Client
	peer *conn.Conn
	what string
	name string // the export that it mostly asks for
	up   []byte // what the client has said and the connection has not taken
	down []byte // what the connection has said and the client has not heard
	dues map[uint64]api.Event
	asks map[uint64]api.Request
	met  map[string]int
}

func exports() []api.Export {
	return []api.Export{
		{Name: "first", Desc: "tracked", Sectors: 16, Tracked: true, Min: 1, Pref: 4096},
		{Name: "second", Sectors: 8, ReadOnly: true, Rotational: true, Min: 512, Pref: 512},
		{Name: "für sich", Desc: "private", Sectors: 24, Private: true, Min: 1, Pref: 1024},
	}
}

// listen lets some of what the connection said be heard; no client breaks, and each answer is what the outcome was.
func (x *talk) listen(n int) {
	x.t.Helper()
	heard := x.c.In(x.down[:n])
	x.down = x.down[n:]
	for _, e := range heard {
		x.met[fmt.Sprint("event ", e.Kind)]++
		switch e.Kind {
		case api.EvBroken:
			x.t.Fatalf("%s: the client broke", x.what)
		case api.EvDone:
			wantEvents(x.t, x.what, []api.Event{e}, x.dues[e.Cookie])
			delete(x.dues, e.Cookie)
			x.met[fmt.Sprintf("command %d, code %v", x.asks[e.Cookie].Type, e.Code != 0)]++
			delete(x.asks, e.Cookie)
		case api.EvStart:
			s := x.peer.Session()
			want(x.t, x.what+": the size", e.Info.Size, uint64(512*exports()[s.Index].Sectors))
			x.met[fmt.Sprintf("structured %v, extended %v, contexts %d", s.Structured, s.Extended, len(s.Contexts))]++
		}
	}
}

// ask asks anything, mostly what may be asked.
func (x *talk) ask() {
	x.t.Helper()
	d, c := x.d, x.c
	name := pick(d, "", "nobody", exports()[d.below(3)].Name, x.name, x.name, x.name)
	var b []byte
	switch c.Phase() {
	case api.ClientGreeting:
		b, _ = c.Flags(pick[uint32](d, 3, 3, 3, 3, 3, 1, 1, 0, 2))
	case api.ClientOptions:
		switch n := d.below(40); {
		case n == 0:
			b, _ = c.Option(api.OptExportName, []byte(name))
		case n < 4:
			b, _ = c.Option(pick[uint32](d, 2, 3, 3, 5, 6, 7, 9, 10, 77), many(d.below(500)))
		case n < 16:
			b, _ = c.Option(pick[uint32](d, 3, 8, 8, 11), nil)
		case n < 28:
			b, _ = c.Meta(d.below(4) > 0, api.MetaRequest{Name: name, Queries: pick(d, nil, []string{"base:allocation"}, []string{"spindle:dirty", "x", "spindle:unsaved", "base:allocation"}, []string{"base:allocation", "spindle:unsaved", "spindle:dirty"}, []string{strings.Repeat("n", 450)})})
		default:
			b, _ = c.Info(d.below(3) > 0, api.InfoRequest{Name: name, Infos: pick(d, nil, []uint16{3, 1, 2, 9}, []uint16{3})})
		}
	default:
		b = x.request()
	}
	x.up = append(x.up, b...)
}

func (x *talk) request() []byte {
	d := x.d
	q := thrownRequest(d, &plain{extended: x.peer.Session().Extended})
	if d.below(4) > 0 {
		q.Offset = 512 * uint64(d.below(9))
	}
	if q.Type == api.CmdFlush && d.bool() {
		q.Offset, q.Length, q.Flags = 0, 0, 0
	}
	b, cookie, e := x.c.Request(q)
	if e == api.OK && q.Type != api.CmdDisc {
		x.asks[cookie] = q
	}
	return b
}

// take lets the connection take a message; what is refused has its answer at once.
func (x *talk) take() {
	x.up = x.up[x.peer.Feed(x.up[:min(len(x.up), pick(x.d, 1, 20, 100, 1000))]):]
	took := x.peer.Take()
	if took.Refused {
		x.met["refused"]++
		x.peer.Send(took.Task.ID)
		x.dues[took.Task.Req.Cookie] = done(took.Task.Req.Cookie, x.said(took.Task.Req))
	}
}

// said is the code with which the connection has just refused a request, which is the last thing that it said.
func (x *talk) said(q api.Request) uint32 {
	out := x.peer.Out()
	x.down = append(x.down, out...)
	s := x.peer.Session()
	if s.Extended {
		return at32(out, len(out)-6)
	}
	if s.Structured && (q.Type == api.CmdRead || q.Type == api.CmdStatus) {
		return at32(out, len(out)-6)
	}
	return at32(out, len(out)-12)
}

// finish tells what a pending task has come to, in any way that fits.
func (x *talk) finish() {
	x.t.Helper()
	list := x.peer.Pending()
	if len(list) == 0 {
		return
	}
	task, _ := x.peer.Task(list[x.d.below(len(list))])
	s := x.peer.Session()
	o, due := thrownOutcome(x.d, s, task.Req)
	want(x.t, x.what+": Finish", x.peer.Finish(task.ID, o), api.OK)
	x.dues[task.Req.Cookie] = due
}

// thrownOutcome throws for what a request has come to, and tells what is to be heard of it.
func thrownOutcome(d *dice, s api.Session, q api.Request) (api.Outcome, api.Event) {
	code := uint32(1 + d.below(200))
	switch n := d.below(8); {
	case n == 0:
		return api.Outcome{Code: code}, done(q.Cookie, code)
	case n == 1 && q.Length > 0:
		return api.Outcome{Code: code, Placed: true, At: q.Offset + uint64(d.below(int(min(q.Length, 5000))))}, done(q.Cookie, code)
	case q.Type == api.CmdRead:
		return thrownPieced(d, q)
	case q.Type == api.CmdStatus:
		return thrownRuns(d, s, q)
	}
	return api.Outcome{}, done(q.Cookie, 0)
}

func thrownPieced(d *dice, q api.Request) (api.Outcome, api.Event) {
	var o api.Outcome
	data := []byte{}
	for uint64(len(data)) < q.Length {
		n := 1 + d.below(int(q.Length)-len(data))
		p := api.Piece{Off: q.Offset + uint64(len(data)), Len: uint32(n), Hole: d.bool()}
		if p.Hole {
			data = append(data, make([]byte, n)...)
		} else {
			p.Data = many(n)
			data = append(data, p.Data...)
		}
		o.Pieces = append(o.Pieces, p)
	}
	return o, done(q.Cookie, 0, data...)
}

func thrownRuns(d *dice, s api.Session, q api.Request) (api.Outcome, api.Event) {
	var o api.Outcome
	e := done(q.Cookie, 0)
	for _, id := range s.Contexts {
		var runs []api.StatusRun
		for left := q.Length; left > 0; {
			r := api.StatusRun{Len: 1 + uint64(d.below(int(min(left, 5000)))), Flags: uint64(d.below(4))}
			left -= r.Len
			runs = append(runs, r)
		}
		o.Runs = append(o.Runs, runs)
		if q.Flags&api.FlagOne != 0 {
			runs = runs[:1]
		}
		e.Status = append(e.Status, api.ContextRuns{Context: id, Runs: slices.Clone(runs)})
	}
	return o, e
}

// step does one thing that is thrown.
func (x *talk) step() {
	x.t.Helper()
	switch n := x.d.below(10); {
	case n < 3:
		if len(x.asks) < 8 {
			x.ask()
		}
	case n < 5:
		x.take()
	case n < 6:
		x.finish()
	case n < 7:
		if list := x.peer.Ready(); len(list) > 0 {
			x.peer.Send(list[x.d.below(len(list))])
		}
	default:
		x.down = append(x.down, x.peer.Out()...)
		x.listen(min(len(x.down), pick(x.d, 1, 10, 50, len(x.down), len(x.down))))
	}
}

// P16.9: clients over connections, with any requests and any outcomes that fit: none breaks, and each hears what the outcomes were, each once.
func TestOverConnections(t *testing.T) {
	d := dice(20)
	met := map[string]int{}
	for r := range 2500 {
		limits := api.Limits{Payload: pick[uint32](&d, 512, 2048), Option: pick[uint32](&d, 64, 400), Flight: pick(&d, 1, 3, 64)}
		peer, e := conn.New(exports(), limits)
		want(t, "New", e, api.OK)
		x := &talk{t: t, d: &d, c: fresh(t), peer: peer, dues: map[uint64]api.Event{}, asks: map[uint64]api.Request{}, met: met, what: fmt.Sprint("run ", r), name: pick(&d, "first", "first", exports()[d.below(3)].Name)}
		for range 100 + d.below(600) {
			x.step()
		}
		x.settle()
		met[fmt.Sprint("phase ", x.c.Phase())]++
	}
	for _, what := range []string{"event 1", "event 2", "event 3", "event 4", "event 5", "event 6", "event 7", "event 8", "refused", "phase 2", "phase 3", "phase 4",
		"structured false, extended false, contexts 0", "structured true, extended false, contexts 0", "structured true, extended true, contexts 0", "structured true, extended false, contexts 3", "structured true, extended true, contexts 3",
		"command 0, code false", "command 0, code true", "command 1, code false", "command 7, code false", "command 7, code true", "command 6, code false"} {
		if met[what] < 20 {
			t.Errorf("%s: only %d times", what, met[what])
		}
	}
}

// settle lets all that was asked be answered, if the connection is not over: nothing is outstanding then.
func (x *talk) settle() {
	x.t.Helper()
	for range 5000 {
		x.take()
		x.finish()
		for _, id := range x.peer.Ready() {
			x.peer.Send(id)
		}
		x.down = append(x.down, x.peer.Out()...)
		x.listen(len(x.down))
		if len(x.up) == 0 && len(x.dues) == 0 && len(x.peer.Pending()) == 0 && x.peer.Look().Inbox == 0 {
			break
		}
		if x.peer.Over() {
			return
		}
	}
	if !x.peer.Over() {
		want(x.t, x.what+": outstanding", len(listed(x.c)), 0)
		want(x.t, x.what+": not heard", len(x.dues)+len(x.asks), 0)
	}
}

// P16.9: the longest messages there may be, over a connection with the widest limits.
func TestTheLongestOverAConnection(t *testing.T) {
	for _, f := range forms() {
		wide := []api.Export{{Name: "a", Sectors: 4096, Min: 1, Pref: 512}}
		peer, _ := conn.New(wide, api.Limits{Payload: api.MaxPayload, Option: api.MaxOption, Flight: 4})
		c := fresh(t)
		over := func(b []byte) []api.Event {
			for len(b) > 0 {
				b = b[peer.Feed(b):]
				for peer.Take().Kind != api.TookNone {
				}
			}
			return c.In(peer.Out())
		}
		c.In(peer.Out())
		b, _ := c.Flags(3)
		over(b)
		for _, code := range []uint32{8, 11} {
			if code == 8 && f.chunks || code == 11 && f.extended {
				b, _ = c.Option(code, nil)
				over(b)
			}
		}
		b, _ = c.Option(77, many(api.MaxOption))
		wantEvents(t, "a long option", over(b), api.Event{Kind: api.EvRefused, Option: 77, Code: api.RepUnsup})
		b, _ = c.Info(true, api.InfoRequest{})
		want(t, "GO", len(over(b)), 3)
		data := many(api.MaxPayload)
		b, _, _ = c.Request(write(0, data))
		over(b)
		task, _ := peer.Task(1)
		want(t, "a long write", bytes.Equal(task.Req.Data, data), true)
		b, _, _ = c.Request(read(512, api.MaxPayload))
		over(b)
		peer.Finish(2, api.Outcome{Pieces: []api.Piece{{Off: 512, Len: api.MaxPayload, Data: data}}})
		peer.Send(2)
		wantEvents(t, "a long read", c.In(peer.Out()), done(2, 0, data...))
		peer.Finish(1, api.Outcome{})
		peer.Send(1)
		wantEvents(t, "a long write", c.In(peer.Out()), done(1, 0))
	}
}
