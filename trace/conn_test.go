package trace_test

import (
	"bytes"
	"fmt"
	"strings"
	"testing"

	"spindle/api"
	"spindle/conn"
)

func exports() []api.Export {
	return []api.Export{
		{Name: "first", Desc: "tracked", Sectors: 16, Tracked: true, Min: 1, Pref: 4096},
		{Name: "second", Sectors: 8, ReadOnly: true, Rotational: true, Min: 512, Pref: 512},
		{Name: "für sich", Desc: "private", Sectors: 24, Private: true, Min: 1, Pref: 1024},
	}
}

// infoData are what INFO and GO ask.
func infoData(name string, kinds ...uint16) []byte {
	b := lay(uint32(len(name)), name, uint16(len(kinds)))
	for _, k := range kinds {
		b = append(b, lay(k)...)
	}
	return b
}

// metaData are what the two options of contexts ask.
func metaData(name string, queries ...string) []byte {
	b := lay(uint32(len(name)), name, uint32(len(queries)))
	for _, q := range queries {
		b = append(b, lay(uint32(len(q)), q)...)
	}
	return b
}

// A visit is a connection of layer 14, to which a client says what is thrown for, with a tap on the line.
type visit struct {
	street
	t        *testing.T
	peer     *conn.Conn
	seen     int           // how many bytes of up have passed
	early    bool          // what is said passes at once, long before the connection takes it
	sent     []int         // tasks whose answers have left and were not told as the last
	tasks    []api.Request // what the connection has taken
	requests []api.Record  // and what was told of it
	name     string        // the export that is mostly asked for
	met      map[string]int
}

func newVisit(t *testing.T, d *dice, what string, met map[string]int) *visit {
	t.Helper()
	limits := api.Limits{Payload: pick[uint32](d, 512, 2048), Option: pick[uint32](d, 64, 400), Flight: pick(d, 1, 3, 64)}
	peer, e := conn.New(exports(), limits)
	want(t, "New", e, api.OK)
	return &visit{street: street{d: d, x: newTap(t, what)}, t: t, peer: peer, early: d.bool(), name: pick(d, "first", "first", "second", "für sich"), met: met}
}

// says lets the client say something.
func (v *visit) says(b []byte) {
	v.t.Helper()
	v.up = append(v.up, b...)
	if v.early {
		v.passUp(len(v.up))
	}
}

// passUp lets what the client has said pass, up to a place.
func (v *visit) passUp(to int) {
	v.t.Helper()
	if to <= v.seen {
		return
	}
	for _, r := range v.x.pass(false, v.up[v.seen:to]) {
		v.met[fmt.Sprint("client's kind ", r.Kind)]++
		if r.Kind == api.RecRequest && r.N > 0 {
			v.requests = append(v.requests, r)
		}
	}
	v.seen = to
}

// feed lets some of what was said arrive; it has passed by then. A connection that is over takes nothing, whatever its client goes on to say.
func (v *visit) feed(n int) {
	v.t.Helper()
	n = min(n, len(v.up))
	v.passUp(n)
	if !v.peer.Over() {
		n = v.peer.Feed(v.up[:n])
	}
	v.up, v.seen = v.up[n:], v.seen-n
}

// take lets the connection take a message.
func (v *visit) take() {
	v.t.Helper()
	took := v.peer.Take()
	if took.Kind == api.TookRequest {
		v.tasks = append(v.tasks, took.Task.Req)
		want(v.t, v.x.what+": the number", took.Task.ID, len(v.tasks))
		v.met[fmt.Sprintf("command %d, refused %v", took.Task.Req.Type, took.Refused)]++
	}
}

// finish tells what a pending task has come to, in any way that fits.
func (v *visit) finish() {
	v.t.Helper()
	list := v.peer.Pending()
	if len(list) == 0 {
		return
	}
	task, _ := v.peer.Task(list[v.d.below(len(list))])
	want(v.t, v.x.what+": Finish", v.peer.Finish(task.ID, thrownOutcome(v.d, v.peer.Session(), task.Req)), api.OK)
}

// thrownOutcome throws for what a request has come to.
func thrownOutcome(d *dice, s api.Session, q api.Request) api.Outcome {
	code := uint32(1 + d.below(200))
	switch n := d.below(8); {
	case n == 0:
		return api.Outcome{Code: code}
	case n == 1 && q.Length > 0:
		return api.Outcome{Code: code, Placed: true, At: q.Offset + uint64(d.below(int(min(q.Length, 5000))))}
	case q.Type == api.CmdRead:
		return thrownRead(d, q)
	case q.Type == api.CmdStatus:
		return thrownStatus(d, s, q)
	}
	return api.Outcome{}
}

func thrownRead(d *dice, q api.Request) api.Outcome {
	var o api.Outcome
	for at := uint64(0); at < q.Length; {
		p := api.Piece{Off: q.Offset + at, Len: uint32(1 + d.below(int(q.Length-at))), Hole: d.bool()}
		if !p.Hole {
			p.Data = many(int(p.Len))
		}
		at += uint64(p.Len)
		o.Pieces = append(o.Pieces, p)
	}
	return o
}

func thrownStatus(d *dice, s api.Session, q api.Request) api.Outcome {
	var o api.Outcome
	for range s.Contexts {
		var runs []api.StatusRun
		for left := q.Length; left > 0; {
			r := api.StatusRun{Len: 1 + uint64(d.below(int(min(left, 5000)))), Flags: uint64(d.below(4))}
			left -= r.Len
			runs = append(runs, r)
		}
		o.Runs = append(o.Runs, runs)
	}
	return o
}

// send lets an answer leave.
func (v *visit) send() {
	v.t.Helper()
	list := v.peer.Ready()
	if len(list) == 0 {
		return
	}
	id := list[v.d.below(len(list))]
	want(v.t, v.x.what+": Send", v.peer.Send(id), api.OK)
	v.sent = append(v.sent, id)
}

// hear lets some of what the connection has said pass. The server is never wrong; each answer is told with the number of its task, once as the last, in the order in which they left.
func (v *visit) hear(n int) {
	v.t.Helper()
	v.down = append(v.down, v.peer.Out()...)
	n = min(n, len(v.down))
	for _, r := range v.x.pass(true, v.down[:n]) {
		v.met[fmt.Sprint("server's kind ", r.Kind)]++
		switch {
		case r.Server && r.Kind == api.RecWrong:
			v.t.Fatalf("%s: the server is wrong", v.x.what)
		case r.Kind == api.RecAnswer || r.Kind == api.RecChunk:
			want(v.t, v.x.what+": the number", r.N, v.sent[0])
			if r.Last {
				v.sent = v.sent[1:]
			}
		case r.Kind == api.RecRequest && r.N > 0:
			v.requests = append(v.requests, r)
		}
	}
	v.down = v.down[n:]
}

// visitorWords throws for what a client says next, mostly what it may say.
func (v *visit) visitorWords() []byte {
	d := v.d
	look := v.peer.Look()
	if look.Phase != api.PhaseWork && len(v.up)+look.Inbox > 0 && d.below(200) > 0 {
		return nil // it mostly awaits what becomes of what it has said
	}
	switch look.Phase {
	case api.PhaseFlags:
		return spotted(d, flagBytes(pick[uint32](d, 3, 3, 3, 3, 3, 3, 1, 1, 2, 0)))
	case api.PhaseOptions:
		if d.below(6) == 0 {
			return spotted(d, v.haggleWords())
		}
		return v.haggleWords()
	case api.PhaseWork:
		return v.workWords()
	}
	return many(d.below(40))
}

func (v *visit) haggleWords() []byte {
	d := v.d
	name := pick(d, "", "nobody", v.name, v.name, v.name, v.name)
	switch n := d.below(40); {
	case n == 0:
		return optionBytes(api.OptAbort, many(d.below(5))...)
	case n < 3:
		return optionBytes(api.OptExportName, []byte(name)...)
	case n < 6:
		return optionBytes(uint32(d.below(14)), many(d.below(500))...)
	case n < 9:
		return lay(optionBytes(api.OptList), optionBytes(api.OptList), optionBytes(77))
	case n < 14:
		return optionBytes(api.OptStructured)
	case n < 18:
		return optionBytes(api.OptExtended)
	case n < 28:
		return optionBytes(pick[uint32](d, 9, 10, 10), metaData(name, pick(d, nil, []string{"base:allocation", "spindle:unsaved"}, []string{"spindle:dirty", "x", "base:allocation"}, []string{strings.Repeat("n", 300)})...)...)
	}
	b := optionBytes(pick[uint32](d, 6, 7, 7, 7), infoData(name, pick(d, nil, []uint16{3, 1, 2, 9}, []uint16{3})...)...)
	for range max(0, d.below(20)-16) { // requests right behind GO, though it may be refused
		b = append(b, v.requestWords(v.peer.Session().Extended)...)
	}
	return b
}

// workWords throws for a request, mostly for one that the rules take.
func (v *visit) workWords() []byte {
	d := v.d
	s := v.peer.Session()
	if d.below(6) == 0 {
		return v.requestWords(s.Extended)
	}
	v.cookie++
	q := asking(pick[uint16](d, 0, 0, 0, 0, 1, 1, 3, 4, 5, 6, 7, 7), v.cookie, uint64(512*d.below(8)), uint64(512*d.below(3)+1+d.below(511)), pick[uint16](d, 0, 0, 0, 1, 4, 8))
	if d.bool() {
		q.Length = 512
	}
	if q.Type == api.CmdFlush {
		q.Offset, q.Length, q.Flags = 0, 0, 0
	}
	if q.Type == api.CmdWrite {
		q.Data = bytes.Repeat([]byte{7}, int(q.Length))
		if s.Extended {
			q.Flags |= api.FlagPayload
		}
	}
	return requestBytes(q, s.Extended)
}

// step does one thing that is thrown; says is what the client does when it is to say something.
func (v *visit) step(says func()) {
	v.t.Helper()
	switch n := v.d.below(10); {
	case n < 2 && len(v.up) < 3000:
		says()
	case n < 4:
		v.feed(pick(v.d, 1, 20, 600, 3000))
	case n < 6:
		v.take()
	case n < 7:
		v.finish()
	case n < 8:
		v.send()
	default:
		v.hear(pick(v.d, 1, 10, 50, 5000, 5000))
	}
}

// settle lets all be answered that is taken, and pass; all that left was told then, but behind a client that is wrong by a cookie.
func (v *visit) settle() {
	v.t.Helper()
	for range 300 {
		v.feed(len(v.up))
		v.take()
		v.finish()
		v.send()
		v.hear(1 << 20)
	}
	if !v.x.p.dead[ofServer] {
		wantList(v.t, v.x.what+": answers that were not told", v.sent, nil)
		want(v.t, v.x.what+": all that was taken was told", len(v.requests) >= len(v.tasks), true)
	}
	for i := range min(len(v.tasks), len(v.requests)) {
		q := v.tasks[i]
		wantRecords(v.t, v.x.what, v.requests[i:i+1], []api.Record{request(i+1, q, uint64(len(q.Data)))})
	}
}

// P22.10, W3: of connections, whatever their clients say, the server is never wrong, and each answer that leaves is told with the number of its task, once as the last.
func TestOverConnections(t *testing.T) {
	d := dice(25)
	met := map[string]int{}
	for r := range 1500 {
		v := newVisit(t, &d, fmt.Sprint("run ", r), met)
		for n := range 50 + d.below(500) {
			v.x.what = fmt.Sprintf("run %d, step %d", r, n)
			v.step(func() { v.says(v.visitorWords()) })
			if t.Failed() {
				t.FailNow()
			}
		}
		v.settle()
		s := v.peer.Session()
		met[fmt.Sprintf("over %v", v.peer.Over())]++
		met[fmt.Sprintf("by a cookie %v", v.x.p.dead[ofServer])]++
		if v.x.p.started {
			met[fmt.Sprintf("structured %v, extended %v", s.Structured, s.Extended)]++
		}
	}
	for _, what := range []string{
		"client's kind 2", "client's kind 3", "client's kind 6", "client's kind 9", "server's kind 1", "server's kind 4", "server's kind 5", "server's kind 6", "server's kind 7", "server's kind 8",
		"command 0, refused false", "command 0, refused true", "command 1, refused false", "command 3, refused false", "command 7, refused false", "command 7, refused true", "command 9, refused true",
		"over true", "over false", "by a cookie true", "by a cookie false", "structured false, extended false", "structured true, extended false", "structured true, extended true",
	} {
		if met[what] < 20 {
			t.Errorf("%s: only %d times", what, met[what])
		}
	}
}

// P22.10, W3: bytes that nobody would say to a connection.
func TestThrownAtConnections(t *testing.T) {
	d := dice(26)
	for r := range 300 {
		v := newVisit(t, &d, fmt.Sprint("run ", r), map[string]int{})
		for range 30 {
			v.step(func() {
				b := make([]byte, d.below(60))
				for i := range b {
					b[i] = pick(&d, 0, 0, 0, 1, 3, byte(d.below(256)))
				}
				v.says(b)
			})
		}
		v.settle()
	}
}
