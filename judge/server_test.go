package judge_test

import (
	"bytes"
	"slices"
	"testing"

	"spindle/api"
	"spindle/client"
	"spindle/server"
)

// A caller is a client of a server.
type caller struct {
	c     *client.Client
	conn  int
	up    []byte         // what it has said and the server has not taken
	said  int            // how many bytes of requests it has said
	asked map[uint64]int // which operation a cookie stands for
	tasks map[int]int    // and which a task
	ends  map[int]int    // how many bytes were said to its end, of each operation that has not come whole
}

// A witness looks at all that clients see of a server's one export.
type witness struct {
	t       *testing.T
	d       *dice
	s       *server.Server
	size    int
	callers []*caller
	moment  int
	seen    call // what was there at first, the operations, and the order in which they were done
}

func newWitness(t *testing.T, d *dice, sectors int) *witness {
	t.Helper()
	image, e := server.Format(60, api.Label{Exports: []api.Export{{Name: "a", Sectors: sectors, Min: 1, Pref: 512}}})
	want(t, "Format", e, api.OK)
	s, e := server.New(image, api.Config{Lines: pick(d, 1, 3, 16), Conns: 3, Limits: api.Limits{Payload: 8192, Option: 400, Flight: 8}})
	want(t, "New", e, api.OK)
	return &witness{t: t, d: d, s: s, size: 512 * sectors}
}

// step does a step, at a moment of its own.
func (w *witness) step(s api.Step) api.Answer {
	w.t.Helper()
	w.moment++
	a := w.s.Step(s)
	if a.Err != api.OK {
		w.t.Fatalf("step %+v: error %d", s, a.Err)
	}
	return a
}

// begin lets three clients come, and forgets what was seen.
func (w *witness) begin() {
	w.t.Helper()
	first, e := w.s.Peek(0)
	want(w.t, "Peek", e, api.OK)
	w.callers, w.moment, w.seen = nil, 0, call{first: first}
	for range 3 {
		a := w.step(api.Step{Kind: api.SOpen})
		x := &caller{c: client.New(), conn: a.Conn, asked: map[uint64]int{}, tasks: map[int]int{}, ends: map[int]int{}}
		x.c.In(a.Out)
		flags, _ := x.c.Flags(3)
		ask, _ := x.c.Info(true, api.InfoRequest{Name: "a"})
		w.step(api.Step{Kind: api.SFeed, Conn: x.conn, Data: append(flags, ask...)})
		for range 2 {
			x.c.In(w.step(api.Step{Kind: api.STake, Conn: x.conn}).Out)
		}
		want(w.t, "the phase", x.c.Phase(), api.ClientWork)
		w.callers = append(w.callers, x)
	}
}

// ask lets a client ask something.
func (w *witness) ask(x *caller) {
	w.t.Helper()
	q, op := w.request()
	b, cookie, e := x.c.Request(q)
	want(w.t, "Request", e, api.OK)
	w.moment++
	op.From, op.To = w.moment, never
	x.up, x.said = append(x.up, b...), x.said+len(b)
	x.asked[cookie], x.ends[len(w.seen.ops)] = len(w.seen.ops), x.said
	w.seen.ops = append(w.seen.ops, op)
}

// feed lets bytes arrive, as far as there is room: an operation counts as asked at the moment at which it has come whole.
func (w *witness) feed(x *caller, n int) {
	w.t.Helper()
	a := w.step(api.Step{Kind: api.SFeed, Conn: x.conn, Data: x.up[:n]})
	x.up = x.up[a.N:]
	for op, end := range x.ends {
		if end <= x.said-len(x.up) {
			w.seen.ops[op].From = w.moment
			delete(x.ends, op)
		}
	}
}

// request throws for a request, and tells which operation it is. A trim is a zero of whole sectors.
func (w *witness) request() (api.Request, api.Op) {
	lo, hi := w.place(), w.place()
	if lo == hi {
		lo, hi = 0, w.size
	}
	lo, hi = min(lo, hi), max(lo, hi)
	q := api.Request{Type: pick[uint16](w.d, api.CmdRead, api.CmdRead, api.CmdRead, api.CmdWrite, api.CmdWrite, api.CmdWrite, api.CmdZeroes, api.CmdTrim, api.CmdFlush), Offset: uint64(lo), Length: uint64(hi - lo)}
	op := api.Op{Off: lo, Len: hi - lo}
	switch q.Type {
	case api.CmdRead:
		op.Kind = api.OpRead
		return q, op
	case api.CmdWrite:
		op.Kind, q.Data = api.OpWrite, of(hi-lo, byte('a'+w.d.below(26)))
		op.Data = slices.Clone(q.Data)
	case api.CmdZeroes:
		op.Kind = api.OpZero
	case api.CmdTrim:
		op.Kind, op.Off = api.OpZero, (lo+511)/512*512
		op.Len = max(0, hi/512*512-op.Off)
	case api.CmdFlush:
		op.Kind, op.Off, op.Len, q.Offset, q.Length = api.OpFlush, 0, 0, 0, 0
	}
	if w.d.below(4) == 0 {
		q.Flags = api.FlagFua
	}
	op.Sync = q.Type == api.CmdFlush || q.Flags == api.FlagFua
	return q, op
}

// place is an offset, mostly at the edge of a sector.
func (w *witness) place() int {
	return min(w.size, max(0, 512*w.d.below(w.size/512+1)+pick(w.d, -1, 0, 0, 0, 1, 100)))
}

// take lets a message be taken, if there is one.
func (w *witness) take(x *caller) {
	w.t.Helper()
	took := w.step(api.Step{Kind: api.STake, Conn: x.conn}).Took
	if took.Kind != api.TookRequest {
		return
	}
	want(w.t, "refused", took.Refused, false)
	x.tasks[took.Task.ID] = x.asked[took.Task.Req.Cookie]
}

// run lets a task be done: the order is that in which they are done.
func (w *witness) run(x *caller, at int) {
	w.t.Helper()
	a := w.step(api.Step{Kind: api.SRun, Conn: x.conn, N: at})
	want(w.t, "the code", a.Code, 0)
	w.seen.order = append(w.seen.order, x.tasks[a.N])
}

// send lets an answer leave: it is answered at that moment.
func (w *witness) send(x *caller, at int) {
	w.t.Helper()
	for _, e := range x.c.In(w.step(api.Step{Kind: api.SSend, Conn: x.conn, N: at}).Out) {
		want(w.t, "the event", e.Kind, api.EvDone)
		op := &w.seen.ops[x.asked[e.Cookie]]
		op.To = w.moment
		if op.Kind == api.OpRead {
			op.Data = e.Data
		}
	}
}

// goOn does one thing that is thrown.
func (w *witness) goOn(most int) {
	w.t.Helper()
	x := w.callers[w.d.below(len(w.callers))]
	var look api.ConnLook
	for _, s := range w.s.Look().Conns {
		if s.Conn == x.conn {
			look = s.Look
		}
	}
	switch n := w.d.below(20); {
	case n < 4 && len(w.seen.ops) < most && len(x.up) < 5000:
		w.ask(x)
	case n < 7:
		w.feed(x, min(len(x.up), pick(w.d, 1, 28, 600, 9000, 9000)))
	case n < 10:
		w.take(x)
	case n < 14 && len(look.Pending) > 0:
		w.run(x, w.d.below(len(look.Pending)))
	case n < 18 && len(look.Ready) > 0:
		w.send(x, w.d.below(len(look.Ready)))
	case n == 18:
		w.step(api.Step{Kind: api.SWrite})
	}
}

// told is what clients saw: what was not answered told nothing.
func (w *witness) told() call {
	c := w.seen
	c.ops = slices.Clone(c.ops)
	for i := range c.ops {
		c.ops[i].Sync = c.ops[i].Sync && c.ops[i].To != never
	}
	return c
}

// fall lets the machine fall, with any mixture of what waits, and start again.
func (w *witness) fall() {
	w.t.Helper()
	keep := make([]bool, w.s.Look().Queue)
	for i := range keep {
		keep[i] = w.d.bool()
	}
	w.step(api.Step{Kind: api.SCrash, Keep: keep})
	w.step(api.Step{Kind: api.SStart})
}

// W1, and W2 behind each crash: what clients see of a server has an order that keeps real time, that in which all was done among them; and what is there behind a crash may be there.
func TestWhatAServerDoes(t *testing.T) {
	d := dice(11)
	found, lost := 0, 0
	for r := range 36 {
		w := newWitness(t, &d, pick(&d, 1, 3, 8))
		for range 6 {
			most, steps := 10, 30+d.below(120)
			if r%3 == 0 {
				most, steps = 1000, 1000
			}
			w.begin()
			for range steps {
				w.goOn(most)
			}
			c := w.told()
			v, _ := w.s.Peek(0)
			c.wantFollow(t, "the order in which they were done", v)
			if len(c.ops) <= 10 {
				order, some, e := c.find(t)
				if e != api.OK || !some || slices.Compare(order, c.order) > 0 {
					t.Errorf("Order: %v, %v, error %d, and they were done in %v", order, some, e, c.order)
				}
				found++
			}
			w.fall()
			c.after, _ = w.s.Peek(0)
			c.wantTaken(t, "behind a crash")
			if !bytes.Equal(v, c.after) {
				lost++
			}
			w.lies(c)
			if t.Failed() {
				t.FailNow()
			}
		}
	}
	if found < 100 || lost < 50 {
		t.Error("too few:", found, lost)
	}
}

// lies looks that a server that had told or kept something else would be found out.
func (w *witness) lies(c call) {
	w.t.Helper()
	for i := range c.after {
		if i%97 == 0 {
			c.after[i] ^= 0x80
			c.wantNot(w.t, "a byte that none wrote, behind a crash", i/512)
			c.after[i] ^= 0x80
		}
	}
	for n, op := range c.ops {
		if op.Kind != api.OpRead || op.To == never {
			continue
		}
		c.ops[n].Data = slices.Clone(op.Data)
		c.ops[n].Data[w.d.below(op.Len)] ^= 0x80
		c.wantWrong(w.t, "a byte that none wrote, read", slices.Index(c.order, n))
		if len(c.ops) <= 10 {
			c.wantNone(w.t, "a byte that none wrote, read")
		}
		c.ops[n] = op
		if len(c.ops) > 10 {
			break
		}
	}
}
