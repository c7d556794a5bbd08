package client_test

import (
	"bytes"
	"fmt"
	"testing"

	"spindle/api"
	"spindle/client"
	"spindle/label"
	"spindle/rule"
	"spindle/server"
)

// A caller is a client of a server, and what is to be said to its requests.
type caller struct {
	c     *client.Client
	conn  int
	up    []byte // what it has said and the server has not taken
	down  []byte // what was said to it and it has not heard
	name  string // the export that it asks for
	size  int
	form  form
	next  int                 // which of its options it asks next
	tasks map[int]api.Request // what was taken, by its number
	dues  map[uint64]due
	own   []byte // of a private export, its array from its first task on
	lost  bool   // that array is not known any more: a change of it has failed
}

// A due is what is to be heard of a request that was done, or refused.
type due struct {
	q    api.Request
	code uint32
	v    []byte // the array when it was done
	free bool   // which is not known
}

// A house is a server and its callers.
type house struct {
	t       *testing.T
	d       *dice
	s       *server.Server
	what    string
	exports []api.Export
	limits  api.Limits
	callers []*caller // those whose connections are there
	met     map[string]int
}

// served are exports of all kinds, on a disk on which something is laid out.
func served(t *testing.T) ([]api.Export, []byte) {
	t.Helper()
	l := api.Label{Exports: []api.Export{
		{Name: "a", Sectors: 8, Min: 1, Pref: 512},
		{Name: "t", Sectors: 9, Min: 1, Pref: 4096, Tracked: true},
		{Name: "p", Sectors: 6, Min: 1, Pref: 512, Private: true, Rotational: true},
		{Name: "r", Sectors: 4, Min: 512, Pref: 1024, ReadOnly: true},
	}}
	image, e := server.Format(80, l)
	want(t, "Format", e, api.OK)
	places, _ := label.Layout(l)
	for i, p := range places {
		image[512*p.Notes.First] = 0x50 // sectors 1 and 3
		copy(image[512*(p.Data.First+1):], of(512, byte('b'+i)))
		copy(image[512*(p.Data.First+3):], many(512))
	}
	return l.Exports, image
}

func newHouse(t *testing.T, d *dice, met map[string]int) *house {
	t.Helper()
	exports, image := served(t)
	limits := api.Limits{Payload: 4608, Option: 400, Flight: pick(d, 1, 3, 8)}
	s, e := server.New(image, api.Config{Lines: pick(d, 1, 3, 16), Conns: 4, Limits: limits})
	want(t, "New", e, api.OK)
	return &house{t: t, d: d, s: s, exports: exports, limits: limits, met: met}
}

// look tells how a caller's connection stands, if it is there.
func (h *house) look(x *caller) (api.ConnLook, bool) {
	for _, s := range h.s.Look().Conns {
		if s.Conn == x.conn {
			return s.Look, true
		}
	}
	return api.ConnLook{}, false
}

// open lets a client come.
func (h *house) open() {
	h.t.Helper()
	a := h.s.Step(api.Step{Kind: api.SOpen})
	if a.Err != api.OK {
		return
	}
	f := pick(h.d, form{}, form{chunks: true}, form{chunks: true, extended: true})
	if f.chunks && h.d.below(4) > 0 {
		f.contexts = []uint32{1, 2, 3}
	}
	e := h.exports[h.d.below(4)]
	h.callers = append(h.callers, &caller{c: fresh(h.t), conn: a.Conn, down: a.Out, name: e.Name, size: 512 * e.Sectors, form: f, tasks: map[int]api.Request{}, dues: map[uint64]due{}})
}

// ask lets a client ask what it has in mind: flags, options, and then requests.
func (h *house) ask(x *caller) {
	h.t.Helper()
	var b []byte
	switch x.c.Phase() {
	case api.ClientGreeting:
		b, _ = x.c.Flags(pick[uint32](h.d, 3, 3, 1))
	case api.ClientOptions:
		var e api.Errno
		if b, e = h.option(x); e == api.OK {
			x.next++
		}
	case api.ClientWork:
		q := h.request(x)
		var e api.Errno
		b, _, e = x.c.Request(q)
		want(h.t, h.what+": Request", e, api.OK)
	}
	x.up = append(x.up, b...)
}

func (h *house) option(x *caller) ([]byte, api.Errno) {
	switch {
	case x.next == 0:
		return x.c.Option(api.OptList, nil)
	case x.next == 1 && x.form.extended:
		return x.c.Option(api.OptExtended, nil)
	case x.next == 1 && x.form.chunks:
		return x.c.Option(api.OptStructured, nil)
	case x.next == 2 && len(x.form.contexts) > 0:
		return x.c.Meta(true, api.MetaRequest{Name: x.name, Queries: []string{"base:allocation", "spindle:unsaved", "spindle:dirty"}})
	case x.next < 3:
		return nil, api.OK
	case h.d.below(5) == 0:
		return x.c.Option(api.OptExportName, []byte(x.name))
	}
	return x.c.Info(true, api.InfoRequest{Name: x.name, Infos: []uint16{api.InfoBlock, api.InfoName}})
}

// request throws for a request, mostly for one that the rules take.
func (h *house) request(x *caller) api.Request {
	d := h.d
	if d.below(80) == 0 {
		return disc()
	}
	q := asking(pick[uint16](d, 0, 0, 0, 0, 0, 1, 1, 1, 3, 4, 5, 6, 7, 7, 8), uint64(512*d.below(x.size/512)), uint64(512*(1+d.below(3))))
	if x.name != "r" && d.bool() {
		q.Offset, q.Length = uint64(d.below(x.size)), uint64(1+d.below(1500))
	}
	if d.below(10) > 0 {
		q.Length = min(q.Length, uint64(x.size)-q.Offset)
	}
	switch {
	case q.Type == api.CmdRead:
		q.Flags = pick[uint16](d, 0, 0, api.FlagDF*uint16(b2i(x.form.chunks)))
	case q.Type == api.CmdWrite:
		q.Flags, q.Data = pick[uint16](d, 0, api.FlagFua), of(int(q.Length), byte(1+d.below(255)))
	case q.Type == api.CmdFlush:
		q.Offset, q.Length = 0, 0
	case q.Type == api.CmdZeroes:
		q.Flags = pick[uint16](d, 0, api.FlagNoHole, api.FlagFast, api.FlagFua)
	case q.Type == api.CmdStatus:
		q.Flags = pick[uint16](d, 0, api.FlagOne)
	}
	return q
}

func b2i(b bool) int {
	if b {
		return 1
	}
	return 0
}

// feed lets some bytes of what a client has said arrive.
func (h *house) feed(x *caller, n int) {
	a := h.s.Step(api.Step{Kind: api.SFeed, Conn: x.conn, Data: x.up[:n]})
	x.up = x.up[a.N:]
}

// take lets the server take a message.
func (h *house) take(x *caller) {
	h.t.Helper()
	a := h.s.Step(api.Step{Kind: api.STake, Conn: x.conn})
	x.down = append(x.down, a.Out...)
	if a.Took.Kind != api.TookRequest {
		return
	}
	q := a.Took.Task.Req
	x.tasks[a.Took.Task.ID] = q
	if a.Took.Refused {
		look, _ := h.look(x)
		x.dues[q.Cookie] = due{q: q, code: rule.Check(h.exports[look.Session.Index], look.Session, h.limits, q)}
		h.met["refused"]++
	}
}

// run lets a task be done, and takes down what it is to tell: what it tells of the array that the export is (W1).
func (h *house) run(x *caller, at int) {
	h.t.Helper()
	look, _ := h.look(x)
	i := look.Session.Index
	q := x.tasks[look.Pending[at]]
	v, e := h.s.Peek(i)
	want(h.t, h.what+": Peek", e, api.OK)
	if h.exports[i].Private && x.own == nil {
		x.own = bytes.Clone(v)
	}
	a := h.s.Step(api.Step{Kind: api.SRun, Conn: x.conn, N: at})
	want(h.t, h.what+": SRun", a.Err, api.OK)
	after, _ := h.s.Peek(i)
	switch {
	case h.exports[i].Private:
		wantBytes(h.t, h.what+": the array of a private export", after, v)
		v = x.own
		x.lost = x.lost || a.Code == api.EIO && rule.Changes(q.Type)
		if a.Code == 0 {
			x.own = changed(v, q)
		}
	case a.Code == 0:
		wantBytes(h.t, h.what+": the array", after, changed(v, q))
	}
	x.dues[q.Cookie] = due{q: q, code: a.Code, v: v, free: x.lost}
}

// changed is an array behind a command.
func changed(array []byte, q api.Request) []byte {
	out := bytes.Clone(array)
	end := q.Offset + q.Length
	switch q.Type {
	case api.CmdWrite:
		copy(out[q.Offset:], q.Data)
	case api.CmdZeroes:
		clear(out[q.Offset:end])
	case api.CmdTrim:
		for s := (q.Offset + 511) / 512 * 512; s+512 <= end; s += 512 {
			clear(out[s : s+512])
		}
	}
	return out
}

// send lets an answer leave.
func (h *house) send(x *caller, at int) {
	a := h.s.Step(api.Step{Kind: api.SSend, Conn: x.conn, N: at})
	x.down = append(x.down, a.Out...)
}

// listen lets a client hear some bytes of what was said to it (W7): it never breaks, and of its requests it hears what they came to.
func (h *house) listen(x *caller, n int) {
	h.t.Helper()
	heard := x.c.In(x.down[:n])
	x.down = x.down[n:]
	for _, e := range heard {
		h.met[fmt.Sprint("event ", e.Kind)]++
		switch e.Kind {
		case api.EvBroken:
			h.t.Fatalf("%s: a client broke", h.what)
		case api.EvDone:
			h.answered(x, e)
		case api.EvStart:
			want(h.t, h.what+": the size", e.Info.Size, uint64(x.size))
		}
	}
}

// answered holds an answer against what the request came to.
func (h *house) answered(x *caller, e api.Event) {
	h.t.Helper()
	d, there := x.dues[e.Cookie]
	want(h.t, h.what+": it was done, or refused, and not answered", there, true)
	delete(x.dues, e.Cookie)
	want(h.t, h.what+": the code", e.Code, d.code)
	h.met[fmt.Sprintf("export %s, command %d, chunks %v, extended %v, code %d", x.name, d.q.Type, x.form.chunks, x.form.extended, e.Code)]++
	var data []byte
	if d.q.Type == api.CmdRead && e.Code == 0 {
		data = d.v[d.q.Offset:][:d.q.Length]
	}
	if !d.free {
		wantBytes(h.t, h.what+": what was read", e.Data, data)
	}
	if d.q.Type == api.CmdStatus && e.Code == 0 {
		h.status(x, d, e)
		return
	}
	want(h.t, h.what+": a status", len(e.Status), 0)
}

// status looks that a block status tells of each context, from the first byte on, and that what it tells to be a hole is bytes 0.
func (h *house) status(x *caller, d due, e api.Event) {
	h.t.Helper()
	want(h.t, h.what+": contexts", len(e.Status), 2+b2i(x.name == "t"))
	for _, s := range e.Status {
		at := d.q.Offset
		for _, r := range s.Runs {
			if s.Context == api.ContextBase && r.Flags&api.StateHole != 0 && !d.free {
				wantBytes(h.t, h.what+": a hole", d.v[at:at+r.Len], make([]byte, r.Len))
			}
			at += r.Len
		}
		if d.q.Flags&api.FlagOne == 0 {
			want(h.t, h.what+": all is told", at, d.q.Offset+d.q.Length)
		}
	}
}

// fall lets the machine fall and start again: what had left is still heard, and no client hears more.
func (h *house) fall() {
	h.t.Helper()
	keep := make([]bool, h.d.below(h.s.Look().Queue+1))
	for i := range keep {
		keep[i] = h.d.bool()
	}
	h.s.Step(api.Step{Kind: api.SCrash, Keep: keep})
	for range 100 { // faults that are armed may hinder it, once each
		if h.s.Step(api.Step{Kind: api.SStart}).Err == api.OK {
			break
		}
	}
	h.leave(func(*caller) bool { return true })
	h.met["crash"]++
}

// leave lets callers go, behind hearing what had left for them.
func (h *house) leave(goes func(x *caller) bool) {
	h.t.Helper()
	var rest []*caller
	for _, x := range h.callers {
		if !goes(x) {
			rest = append(rest, x)
			continue
		}
		h.listen(x, len(x.down))
	}
	h.callers = rest
}

// step does one thing that is thrown.
func (h *house) step(calm bool) {
	h.t.Helper()
	n := h.d.below(100)
	if len(h.callers) == 0 || n < 2 {
		h.open()
		return
	}
	x := h.callers[h.d.below(len(h.callers))]
	look, _ := h.look(x)
	switch {
	case n < 20:
		if len(x.up) < 2000 {
			h.ask(x)
		}
	case n < 40:
		h.feed(x, min(len(x.up), pick(h.d, 1, 20, 600, 3000)))
	case n < 55:
		h.take(x)
	case n < 67 && len(look.Pending) > 0:
		h.run(x, h.d.below(len(look.Pending)))
	case n < 80 && len(look.Ready) > 0:
		h.send(x, h.d.below(len(look.Ready)))
	case n < 96:
		h.listen(x, min(len(x.down), pick(h.d, 1, 20, 500, len(x.down), len(x.down))))
	case n == 96:
		h.s.Step(api.Step{Kind: pick(h.d, api.SWrite, api.SWrite, api.SClear), N: 1})
	case calm:
	case n == 97 && h.d.below(8) == 0:
		h.s.Step(api.Step{Kind: api.SShut, Conn: x.conn})
	case n == 98:
		h.s.Step(api.Step{Kind: api.SFault, Fault: api.Fault{Kind: 1 + h.d.below(3), Sector: -1, After: h.d.below(4), Times: 1}})
	case n == 99 && h.d.below(20) == 0:
		h.fall()
	}
	h.leave(func(x *caller) bool {
		_, there := h.look(x)
		return !there
	})
}

// settle serves the callers in rounds, until all is answered: nothing is outstanding then (W6).
func (h *house) settle() {
	h.t.Helper()
	for range 3000 {
		busy := false
		for _, x := range h.callers {
			look, _ := h.look(x)
			for range look.Pending {
				h.run(x, 0)
			}
			look, _ = h.look(x)
			for range look.Ready {
				h.send(x, 0)
			}
			h.take(x)
			h.feed(x, len(x.up))
			h.listen(x, len(x.down))
			look, there := h.look(x)
			busy = busy || there && (len(x.up)+look.Inbox+len(look.Pending)+len(look.Ready) > 0)
		}
		if !busy {
			break
		}
	}
	for _, x := range h.callers {
		h.listen(x, len(x.down))
		wantOutstanding(h.t, h.what, x.c)
		want(h.t, h.what+": not heard", len(x.dues), 0)
	}
}

// W7: clients over a server, in any pieces, with whatever the script picks, with faults and crashes too: no client breaks, each hears the answers of W1, and reads in chunks are gathered to the bytes that the array had.
func TestOverAServer(t *testing.T) {
	d := dice(21)
	met := map[string]int{}
	for r := range 60 {
		h := newHouse(t, &d, met)
		for n := range 1500 {
			h.what = fmt.Sprintf("run %d, step %d", r, n)
			h.step(r%2 == 0)
			if t.Failed() {
				t.FailNow()
			}
		}
		h.settle()
	}
	for _, name := range []string{"a", "t", "p", "r"} {
		for _, f := range forms() {
			for _, command := range []int{0, 1, 7} {
				what := fmt.Sprintf("export %s, command %d, chunks %v, extended %v, code 0", name, command, f.chunks, f.extended)
				if may := (name != "r" || command != 1) && (command != 7 || f.chunks); may && met[what] < 10 {
					t.Errorf("%s: only %d times", what, met[what])
				}
			}
		}
	}
	for _, what := range []string{"event 1", "event 2", "event 3", "event 4", "event 5", "event 7", "event 8", "refused", "crash", "export a, command 1, chunks true, extended false, code 5", "export a, command 0, chunks true, extended true, code 5"} {
		if met[what] < 3 {
			t.Errorf("%s: only %d times", what, met[what])
		}
	}
}
