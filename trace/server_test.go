package trace_test

import (
	"fmt"
	"slices"
	"testing"

	"spindle/api"
	"spindle/client"
	"spindle/server"
)

// A caller is a client of a server, or somebody who says what is thrown for, with a tap on the line.
type caller struct {
	street
	c     *client.Client // nil of somebody else
	conn  int
	row   []byte // what has passed and was not heard
	asked int    // options so far
	form  form
	name  string
	sent  []int // tasks whose answers have left and were not told as the last
}

// A house is a server and its callers.
type house struct {
	t       *testing.T
	d       *dice
	s       *server.Server
	what    string
	callers []*caller
	met     map[string]int
}

func newHouse(t *testing.T, d *dice, met map[string]int) *house {
	t.Helper()
	image, e := server.Format(120, api.Label{Exports: exports()})
	want(t, "Format", e, api.OK)
	s, e := server.New(image, api.Config{Lines: pick(d, 1, 3, 16), Conns: 4, Limits: api.Limits{Payload: 4608, Option: 400, Flight: pick(d, 1, 3, 8)}})
	want(t, "New", e, api.OK)
	return &house{t: t, d: d, s: s, met: met}
}

func (h *house) open() {
	h.t.Helper()
	a := h.s.Step(api.Step{Kind: api.SOpen})
	if a.Err != api.OK {
		return
	}
	x := &caller{street: street{d: h.d, x: newTap(h.t, h.what), down: a.Out}, conn: a.Conn, form: pick(h.d, forms()...), name: exports()[h.d.below(3)].Name}
	if h.d.below(4) > 0 {
		x.c = client.New()
	}
	h.callers = append(h.callers, x)
}

// look tells how a caller's connection stands, if it is there.
func (h *house) look(x *caller) (api.ConnLook, bool) {
	for _, s := range h.s.Look().Conns {
		if s.Conn == x.conn {
			return s.Look, true
		}
	}
	return api.ConnLook{}, false
}

// words are what a caller says next.
func (h *house) words(x *caller) []byte {
	if x.c == nil {
		return x.clientWords()
	}
	var b []byte
	switch x.c.Phase() {
	case api.ClientGreeting:
		b, _ = x.c.Flags(pick[uint32](h.d, 3, 3, 1))
	case api.ClientOptions:
		var e api.Errno
		if b, e = h.option(x); e == api.OK {
			x.asked++
		}
	case api.ClientWork:
		b, _, _ = x.c.Request(h.request())
	}
	return b
}

func (h *house) option(x *caller) ([]byte, api.Errno) {
	switch {
	case x.asked == 0 && x.form.extended:
		return x.c.Option(api.OptExtended, nil)
	case x.asked == 0 && x.form.chunks:
		return x.c.Option(api.OptStructured, nil)
	case x.asked == 1 && x.form.chunks:
		return x.c.Meta(true, api.MetaRequest{Name: x.name, Queries: []string{"base:allocation", "spindle:unsaved", "spindle:dirty"}})
	case h.d.below(4) == 0:
		return x.c.Option(api.OptList, nil)
	case h.d.below(5) == 0:
		return x.c.Option(api.OptExportName, []byte(x.name))
	}
	return x.c.Info(true, api.InfoRequest{Name: x.name, Infos: []uint16{api.InfoBlock, api.InfoName}})
}

func (h *house) request() api.Request {
	d := h.d
	q := asking(pick[uint16](d, 0, 0, 0, 0, 1, 1, 1, 3, 4, 5, 6, 7, 7, 8), 0, uint64(512*d.below(8)), uint64(512*(1+d.below(3))), pick[uint16](d, 0, 0, 0, 1, 4, 8))
	switch {
	case q.Type == api.CmdWrite:
		q.Data = many(int(q.Length))
	case q.Type == api.CmdFlush:
		q.Offset, q.Length, q.Flags = 0, 0, 0
	case d.below(80) == 0:
		q.Type = api.CmdDisc
	}
	return q
}

// feed lets some of what a caller has said pass, and arrive as far as there is room.
func (h *house) feed(x *caller, n int) {
	h.t.Helper()
	n = min(n, len(x.up))
	a := h.s.Step(api.Step{Kind: api.SFeed, Conn: x.conn, Data: x.up[:n]})
	h.told(x, x.x.pass(false, x.up[:a.N]))
	x.up = x.up[a.N:]
}

// told looks at what was told: no client, and no server, is wrong (P22.10).
func (h *house) told(x *caller, list []api.Record) {
	h.t.Helper()
	for _, r := range list {
		h.met[fmt.Sprintf("kind %d, client %v", r.Kind, x.c != nil)]++
		switch {
		case r.Kind == api.RecWrong && (r.Server || x.c != nil):
			h.t.Fatalf("%s: wrong, the server %v", h.what, r.Server)
		case r.Kind == api.RecAnswer || r.Kind == api.RecChunk:
			want(h.t, h.what+": the number", r.N, x.sent[0])
			if r.Last {
				x.sent = x.sent[1:]
			}
		}
	}
}

// step lets the server make a step of a caller's connection.
func (h *house) step(x *caller, s api.Step) {
	h.t.Helper()
	s.Conn = x.conn
	a := h.s.Step(s)
	if a.Err == api.OK && s.Kind == api.SSend {
		x.sent = append(x.sent, a.N)
	}
	x.down = append(x.down, a.Out...)
}

// listen lets some of what was said to a caller pass, and be heard.
func (h *house) listen(x *caller, n int) {
	h.t.Helper()
	n = min(n, len(x.down))
	h.told(x, x.x.pass(true, x.down[:n]))
	x.row = append(x.row, x.down[:n]...)
	x.down = x.down[n:]
	if x.c == nil {
		x.row = nil
		return
	}
	heard := min(len(x.row), pick(h.d, 1, 30, len(x.row), len(x.row)))
	for _, e := range x.c.In(x.row[:heard]) {
		want(h.t, h.what+": a client broke", e.Kind == api.EvBroken, false)
	}
	x.row = x.row[heard:]
}

// move does one thing that is thrown.
func (h *house) move() {
	h.t.Helper()
	d := h.d
	n := d.below(100)
	if len(h.callers) == 0 || n < 2 {
		h.open()
		return
	}
	x := h.callers[d.below(len(h.callers))]
	look, there := h.look(x)
	switch {
	case n < 20 && len(x.up) == 0:
		x.up = h.words(x)
	case n < 40:
		h.feed(x, pick(d, 1, 20, 600, 3000))
	case n < 55:
		h.step(x, api.Step{Kind: api.STake})
	case n < 67 && len(look.Pending) > 0:
		h.step(x, api.Step{Kind: api.SRun, N: d.below(len(look.Pending))})
	case n < 80 && len(look.Ready) > 0:
		h.step(x, api.Step{Kind: api.SSend, N: d.below(len(look.Ready))})
	case n < 95:
		h.listen(x, pick(d, 1, 20, 500, 9000, 9000))
	case n == 95:
		h.s.Step(api.Step{Kind: pick(d, api.SWrite, api.SWrite, api.SClear)})
	case n == 96 && d.below(8) == 0:
		h.s.Step(api.Step{Kind: api.SShut, Conn: x.conn})
	case n == 97 && d.below(4) == 0:
		h.s.Step(api.Step{Kind: api.SFault, Fault: api.Fault{Kind: 1 + d.below(3), Sector: -1, After: d.below(4), Times: 1}})
	case n == 98 && d.below(40) == 0:
		h.fall()
	case n == 99 && !there:
		h.leave(x)
	}
}

// fall lets the machine fall and start again; what had left still passes.
func (h *house) fall() {
	h.t.Helper()
	h.s.Step(api.Step{Kind: api.SCrash, Keep: []bool{true, false, true}})
	for range 100 { // faults that are armed may hinder it, once each
		if h.s.Step(api.Step{Kind: api.SStart}).Err == api.OK {
			break
		}
	}
	for len(h.callers) > 0 {
		h.leave(h.callers[0])
	}
	h.met["crash"]++
}

// leave lets a caller go, behind all that had left for it: each answer was told, once as the last, unless somebody else's cookie has hindered it.
func (h *house) leave(x *caller) {
	h.t.Helper()
	h.listen(x, len(x.down))
	if !x.x.p.dead[ofServer] {
		wantList(h.t, h.what+": answers that were not told", x.sent, nil)
	}
	h.callers = slices.DeleteFunc(h.callers, func(y *caller) bool { return x == y })
}

// P22.10, W3, W7: clients, and others, over a server, in any pieces, with whatever the script picks, with faults and crashes, too: somebody who stands on the line finds no server wrong, and no client of layer 16.
func TestOverAServer(t *testing.T) {
	d := dice(29)
	met := map[string]int{}
	for r := range 120 {
		h := newHouse(t, &d, met)
		for n := range 1500 {
			h.what = fmt.Sprintf("run %d, step %d", r, n)
			h.move()
			if t.Failed() {
				t.FailNow()
			}
		}
		for len(h.callers) > 0 {
			h.leave(h.callers[0])
		}
	}
	for _, what := range []string{"kind 1", "kind 2", "kind 3", "kind 4", "kind 5", "kind 6", "kind 7", "kind 8"} {
		if met[what+", client true"] < 20 {
			t.Errorf("%s: only %d times", what, met[what+", client true"])
		}
	}
	for _, what := range []string{"kind 4, client false", "kind 9, client false", "crash"} {
		if met[what] < 5 {
			t.Errorf("%s: only %d times", what, met[what])
		}
	}
}
