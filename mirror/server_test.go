package mirror_test

import (
	"bytes"
	"fmt"
	"slices"
	"testing"

	"spindle/api"
	"spindle/label"
	"spindle/mirror"
	"spindle/server"
)

// A site is a member's server, and the line to it.
type site struct {
	s       *server.Server
	conn    int    // the connection's number
	up      []byte // what was said and the server has not taken
	down    []byte // what the server has said and was not heard
	inOrder bool   // of this connection: tasks are done in their order
}

// A world is a mirror over servers, with the array that the device is to be.
type world struct {
	t     *testing.T
	d     *dice
	what  string
	plan  api.MirrorPlan
	m     *mirror.Mirror
	sites []*site
	array []byte
	asked []api.Request // the operations, by their numbers from 1 on
	ended int           // how many of them have ended
	busy  int           // how many of a thousand steps are operations
	met   map[string]int
}

// newSite gives a server with these bytes in the beginning of the export "a", whatever else there is.
func newSite(t *testing.T, d *dice, first []byte) *site {
	t.Helper()
	sectors := (len(first) + 511) / 512
	l := api.Label{Exports: []api.Export{{Name: "a", Sectors: sectors + pick(d, 0, 0, 3), Min: 1, Pref: 512, Tracked: d.bool()}, {Name: "other", Sectors: 2, Min: 1, Pref: 512, Private: d.bool()}}}
	places, e := label.Layout(l)
	want(t, "Layout", e, api.OK)
	last := places[1].Data
	image, e := server.Format(last.First+last.Count, l)
	want(t, "Format", e, api.OK)
	for at := 0; at < len(first); at += 512 {
		b := first[at:min(at+512, len(first))]
		s := at / 512
		if !bytes.Equal(b, make([]byte, len(b))) || d.bool() { // zeros may be a hole
			image[512*places[0].Notes.First+s/8] |= 128 >> (s % 8)
			copy(image[512*(places[0].Data.First+s):], b)
		}
	}
	limits := api.Limits{Payload: 8192, Option: 400, Flight: pick(d, 1, 3, 16)}
	s, e := server.New(image, api.Config{Lines: pick(d, 2, 8, 64), Conns: 1, Limits: limits})
	want(t, "New", e, api.OK)
	return &site{s: s, conn: -1}
}

// newWorld throws for one.
func newWorld(t *testing.T, d *dice, what string, met map[string]int) *world {
	t.Helper()
	p := api.MirrorPlan{Members: 2 + d.below(3), Name: "a", Size: uint64(1 + d.below(6000)), Chunk: pick[uint32](d, 512, 1000, 4096)}
	w := &world{t: t, d: d, what: what, plan: p, array: make([]byte, p.Size), busy: pick(d, 1, 4, 20), met: met}
	for at := 0; at < len(w.array); at += 512 {
		if d.bool() {
			copy(w.array[at:min(at+512, len(w.array))], many(512, at))
		}
	}
	for range p.Members {
		w.sites = append(w.sites, newSite(t, d, w.array))
	}
	m, e := mirror.New(p)
	want(t, "New", e, api.OK)
	w.m = m
	for w.whole() == 0 {
		w.round()
	}
	return w
}

// whole tells how many members are.
func (w *world) whole() int {
	n := 0
	for _, s := range w.m.Look().Members {
		n += b2i(s == api.MemberWhole)
	}
	return n
}

func (w *world) is(k int, s api.MemberState) bool { return w.m.Look().Members[k] == s }

// join lets a member that is out join, by a new connection: the former one is cut ahead of it.
func (w *world) join(k int) {
	x := w.sites[k]
	x.s.Step(api.Step{Kind: api.SShut, Conn: x.conn})
	a := x.s.Step(api.Step{Kind: api.SOpen})
	want(w.t, w.what+": SOpen", a.Err, api.OK)
	x.conn, x.up, x.down, x.inOrder = a.Conn, nil, a.Out, false
	want(w.t, w.what+": Join", w.m.Join(k), api.OK)
}

func (w *world) look(x *site) api.ConnLook {
	for _, s := range x.s.Look().Conns {
		if s.Conn == x.conn {
			return s.Look
		}
	}
	return api.ConnLook{}
}

// serve does one thing of a member's server, of whichever kind there is something to do. One that is out goes on with what it was told; what it says is lost.
func (w *world) serve(k, n int) {
	x := w.sites[k]
	look := w.look(x)
	var out []byte
	switch {
	case n < 25:
		b := x.up[:min(len(x.up), pick(w.d, 1, 20, 600, 10000))]
		x.up = x.up[x.s.Step(api.Step{Kind: api.SFeed, Conn: x.conn, Data: b}).N:]
	case n < 50:
		out = x.s.Step(api.Step{Kind: api.STake, Conn: x.conn}).Out
	case n < 75 && len(look.Pending) > 0:
		at := w.d.below(len(look.Pending))
		if x.inOrder {
			at = 0
		}
		w.met[fmt.Sprintf("a task done with code %d, the member out %v", x.s.Step(api.Step{Kind: api.SRun, Conn: x.conn, N: at}).Code, w.is(k, api.MemberOut))]++
	case n < 97 && len(look.Ready) > 0:
		out = x.s.Step(api.Step{Kind: api.SSend, Conn: x.conn, N: w.d.below(len(look.Ready))}).Out
	default:
		x.s.Step(api.Step{Kind: api.SWrite})
	}
	if !w.is(k, api.MemberOut) {
		x.down = append(x.down, out...)
	}
}

// tell lets a member say what it has to.
func (w *world) tell(k int) { w.sites[k].up = append(w.sites[k].up, w.m.Say(k)...) }

// watching does what may drop a member. If that breaks a copying off, the stale one may have been told to write what was read, and nothing is known of that any more, though it stays: its server then does its tasks in their order, lest that write comes behind a later one (see the README).
func (w *world) watching(do func()) {
	before := w.m.Look()
	do()
	after := w.m.Look()
	source := slices.Index(before.Members, api.MemberWhole)
	if t := before.Copying; t >= 0 && after.Members[source] == api.MemberOut && after.Members[t] == api.MemberStale {
		w.sites[t].inOrder = true
		w.met["a copying's source dropped"]++
	}
	for k, s := range after.Members {
		if s == api.MemberOut && before.Members[k] != s {
			w.met[fmt.Sprintf("dropped: state %d, copied to %v, an operation in work %v", before.Members[k], before.Copying == k, before.Waiting > 0 && before.Copying < 0)]++
			w.sites[k].up, w.sites[k].down = nil, nil
		}
	}
}

// hear lets a member hear a piece of what its server has said.
func (w *world) hear(k, most int) {
	x := w.sites[k]
	if w.is(k, api.MemberOut) {
		return
	}
	b := x.down[:min(len(x.down), most)]
	x.down = x.down[len(b):]
	w.watching(func() { want(w.t, w.what+": Hear", w.m.Hear(k, b), api.OK) })
}

// lose lets a member be lost, unless it is the last whole one.
func (w *world) lose(k int) {
	if w.is(k, api.MemberOut) || w.is(k, api.MemberWhole) && w.whole() == 1 {
		return
	}
	w.watching(func() { want(w.t, w.what+": Lost", w.m.Lost(k), api.OK) })
}

// operate asks an operation that is thrown.
func (w *world) operate() {
	off := w.d.below(len(w.array))
	n := 1 + w.d.below(len(w.array)-off)
	q := api.Request{Type: pick[uint16](w.d, api.CmdRead, api.CmdWrite, api.CmdWrite, api.CmdZeroes, api.CmdFlush), Offset: uint64(off)}
	if q.Type == api.CmdRead || q.Type == api.CmdWrite {
		n = min(n, int(w.plan.Chunk))
	}
	q.Length = uint64(n)
	var id int
	var e api.Errno
	switch q.Type {
	case api.CmdRead:
		id, e = w.m.Read(q.Offset, uint32(n))
	case api.CmdWrite:
		q.Data = many(n, w.d.below(250))
		id, e = w.m.Write(q.Offset, q.Data)
	case api.CmdZeroes:
		id, e = w.m.Zero(q.Offset, uint32(n))
	case api.CmdFlush:
		id, e = w.m.Flush()
	}
	if e == api.ErrBusy {
		return
	}
	want(w.t, w.what+": an operation", e, api.OK)
	w.asked = append(w.asked, q)
	want(w.t, w.what+": its number", id, len(w.asked))
}

// check holds what has ended against the array; and, when no operation is in work, what the servers have.
func (w *world) check() {
	w.t.Helper()
	list := w.m.Done()
	for _, x := range list {
		w.ended++
		want(w.t, w.what+": which has ended", x.ID, w.ended)
		w.apply(w.asked[x.ID-1], x)
	}
	l := w.m.Look()
	if inWork := l.Waiting > 0 && l.Copying < 0; inWork || len(list) == 0 && w.d.below(20) > 0 {
		return
	}
	for k := range w.sites {
		w.wantExport(k, l)
	}
	if w.t.Failed() {
		w.t.FailNow()
	}
}

// apply does an operation that has ended to the array.
func (w *world) apply(q api.Request, x api.MirrorDone) {
	w.t.Helper()
	at := w.array[q.Offset:][:q.Length]
	if q.Type == api.CmdFlush {
		w.met[fmt.Sprint("a flush, code ", x.Code)]++
		return
	}
	want(w.t, fmt.Sprintf("%s: operation %d (command %d): Code", w.what, x.ID, q.Type), x.Code, 0)
	switch q.Type {
	case api.CmdRead:
		wantBytes(w.t, fmt.Sprintf("%s: read %d", w.what, x.ID), x.Data, at)
	case api.CmdWrite:
		copy(at, q.Data)
	case api.CmdZeroes:
		clear(at)
	}
}

// wantExport looks that a member's export has the array's bytes wherever the member misses nothing; a whole one misses nothing at all.
func (w *world) wantExport(k int, l api.MirrorLook) {
	w.t.Helper()
	b, e := w.sites[k].s.Peek(0)
	want(w.t, w.what+": Peek", e, api.OK)
	b = b[:len(w.array)]
	for _, r := range l.Missed[k] {
		copy(b[r.Lo:r.Hi], w.array[r.Lo:r.Hi])
	}
	wantBytes(w.t, fmt.Sprintf("%s: member %d, in state %d", w.what, k, l.Members[k]), b, w.array)
	want(w.t, fmt.Sprintf("%s: member %d is whole and misses something", w.what, k), l.Members[k] == api.MemberWhole && len(l.Missed[k]) > 0, false)
}

// step does one thing that is thrown.
func (w *world) step(losses, faults bool) {
	k := w.d.below(len(w.sites))
	switch n := w.d.below(1000); {
	case n < w.busy:
		w.operate()
	case n < 100:
		if w.is(k, api.MemberOut) {
			w.join(k)
		}
	case n < 104:
		if losses {
			w.lose(k)
		}
	case n == 104:
		if faults {
			w.sites[k].s.Step(api.Step{Kind: api.SFault, Fault: api.Fault{Kind: 1 + w.d.below(3), Sector: -1, After: w.d.below(4), Times: 1}})
		}
	case n < 300:
		w.hear(k, pick(w.d, 1, 20, 600, 20000))
	default:
		w.tell(k)
		w.serve(k, w.d.below(100))
	}
	w.met[fmt.Sprint("whole: ", w.whole())]++
}

// round lets each member join, if it is out, and serves it once.
func (w *world) round() {
	for k, x := range w.sites {
		if w.is(k, api.MemberOut) {
			w.join(k)
		}
		w.tell(k)
		x.up = x.up[x.s.Step(api.Step{Kind: api.SFeed, Conn: x.conn, Data: x.up}).N:]
		x.down = append(x.down, x.s.Step(api.Step{Kind: api.STake, Conn: x.conn}).Out...)
		for range w.look(x).Pending {
			x.s.Step(api.Step{Kind: api.SRun, Conn: x.conn})
		}
		for range w.look(x).Ready {
			x.down = append(x.down, x.s.Step(api.Step{Kind: api.SSend, Conn: x.conn}).Out...)
		}
		w.hear(k, len(x.down))
	}
}

// settle serves all members in rounds until all are whole, and all operations have ended; it tells whether there was a whole one all along.
func (w *world) settle() bool {
	w.t.Helper()
	for range 4000 {
		w.round()
		if w.whole() == 0 {
			return false
		}
		w.check()
		if l := w.m.Look(); w.whole() == len(w.sites) && l.Waiting == 0 && w.ended == len(w.asked) {
			return true
		}
	}
	w.t.Fatalf("%s: it does not end: %+v", w.what, w.m.Look())
	return false
}

// wantSafe looks that behind a flush no crash takes anything back from any of them. No fault may be armed.
func (w *world) wantSafe() {
	w.t.Helper()
	w.m.Flush()
	w.asked = append(w.asked, api.Request{Type: api.CmdFlush})
	want(w.t, w.what+": a whole one is there", w.settle(), true)
	for k, x := range w.sites {
		x.s.Step(api.Step{Kind: api.SCrash})
		want(w.t, w.what+": SStart", x.s.Step(api.Step{Kind: api.SStart}).Err, api.OK)
		w.wantExport(k, w.m.Look())
	}
}

// P24.10: over up to four servers, by any pieces and picks, with losses, and with disks that fail: as long as there is a whole member reads tell the bytes of one array, whole members have all of it, and all others what they do not miss; and all are whole after a while. Without faults there is always a whole one.
func TestOverServers(t *testing.T) {
	d := dice(51)
	met := map[string]int{}
	for r := range 180 {
		losses, faults := r%4 > 0, r%4 > 1
		w := newWorld(t, &d, fmt.Sprint("run ", r), met)
		kept := true
		for n := 0; n < 3000 && kept; n++ {
			w.what = fmt.Sprintf("run %d, step %d", r, n)
			w.step(losses, faults)
			if kept = w.whole() > 0; kept {
				w.check()
			}
		}
		w.what = fmt.Sprintf("run %d, settling", r)
		kept = kept && w.settle()
		want(t, w.what+": a whole one was there", kept || faults, true)
		met[fmt.Sprintf("losses %v, faults %v, kept %v", losses, faults, kept)]++
		if !faults {
			w.wantSafe()
		}
		if t.Failed() {
			t.FailNow()
		}
	}
	for _, what := range []string{
		"losses false, faults false, kept true", "losses true, faults false, kept true", "losses true, faults true, kept true", "losses true, faults true, kept false",
		"whole: 1", "whole: 2", "whole: 3", "whole: 4", "a flush, code 0", "a copying's source dropped",
		"a task done with code 0, the member out true", "a task done with code 5, the member out false",
		"dropped: state 2, copied to false, an operation in work true", "dropped: state 2, copied to false, an operation in work false",
		"dropped: state 3, copied to true, an operation in work false", "dropped: state 3, copied to false, an operation in work true",
		"dropped: state 4, copied to false, an operation in work true", "dropped: state 4, copied to false, an operation in work false",
	} {
		if met[what] < 3 {
			t.Errorf("%s: only %d times", what, met[what])
		}
	}
}
