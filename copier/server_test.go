package copier_test

import (
	"bytes"
	"fmt"
	"testing"

	"spindle/api"
	"spindle/copier"
	"spindle/label"
	"spindle/server"
)

// A site is a side's server, and the line to it.
type site struct {
	s      *server.Server
	index  int    // of the export
	conn   int    // the connection's number
	up     []byte // what was said and the server has not taken
	down   []byte // what the server has said and was not heard
	before []byte // the export's bytes when the copy began
}

// A world is a copier between two servers.
type world struct {
	t     *testing.T
	d     *dice
	what  string
	plan  api.CopyPlan
	c     *copier.Copier
	sites [2]*site
	dirty []bool // of each sector of the source: was it changed since its marks were cleared
	gone  bool   // the source was lost when the work had begun
	met   map[string]int
}

// sourceExports are exports of all kinds.
func sourceExports(sectors int) []api.Export {
	return []api.Export{
		{Name: "a", Sectors: sectors, Min: 1, Pref: 512},
		{Name: "t", Sectors: sectors, Min: 1, Pref: 4096, Tracked: true},
		{Name: "p", Sectors: sectors, Min: 1, Pref: 512, Private: true},
		{Name: "r", Sectors: sectors, Min: 512, Pref: 1024, ReadOnly: true},
	}
}

// newSite gives a server of exports, each with bytes of its own on its disk.
func newSite(t *testing.T, d *dice, list []api.Export, index int) *site {
	t.Helper()
	l := api.Label{Exports: list}
	image, e := server.Format(400, l)
	want(t, "Format", e, api.OK)
	places, _ := label.Layout(l)
	for _, p := range places {
		for s := range p.Data.Count {
			if d.bool() {
				image[512*p.Notes.First+s/8] |= 128 >> (s % 8)
				copy(image[512*(p.Data.First+s):], many(512, d.below(250)))
			}
		}
	}
	limits := api.Limits{Payload: 8192, Option: 400, Flight: pick(d, 1, 3, 16)}
	s, e := server.New(image, api.Config{Lines: pick(d, 2, 8, 64), Conns: 2, Limits: limits})
	want(t, "New", e, api.OK)
	return &site{s: s, index: index}
}

// open lets a connection come, in the place of another one.
func (x *site) open() {
	x.s.Step(api.Step{Kind: api.SShut, Conn: x.conn})
	a := x.s.Step(api.Step{Kind: api.SOpen})
	x.conn, x.up, x.down = a.Conn, nil, a.Out
}

// do lets a connection of its own do requests, all of which go well.
func (x *site) do(t *testing.T, name string, list ...api.Request) {
	t.Helper()
	conn := x.s.Step(api.Step{Kind: api.SOpen}).Conn
	said := lay(flagBytes(3), goBytes(name))
	x.s.Step(api.Step{Kind: api.SFeed, Conn: conn, Data: said})
	x.s.Step(api.Step{Kind: api.STake, Conn: conn})
	x.s.Step(api.Step{Kind: api.STake, Conn: conn})
	for _, q := range list {
		x.s.Step(api.Step{Kind: api.SFeed, Conn: conn, Data: requestBytes(q.Type, 1, q.Offset, q.Length, q.Data...)})
		x.s.Step(api.Step{Kind: api.STake, Conn: conn})
		a := x.s.Step(api.Step{Kind: api.SRun, Conn: conn})
		want(t, fmt.Sprint("command ", q.Type, ": Err"), a.Err, api.OK)
		want(t, fmt.Sprint("command ", q.Type), a.Code, 0)
		x.s.Step(api.Step{Kind: api.SSend, Conn: conn})
	}
	x.s.Step(api.Step{Kind: api.SShut, Conn: conn})
}

// fill throws for changes of an export, each of whole sectors, and makes them safe; it tells which sectors were changed.
func (x *site) fill(t *testing.T, d *dice, name string, sectors, changes int) []bool {
	t.Helper()
	changed := make([]bool, sectors)
	var list []api.Request
	for range changes {
		s := d.below(sectors)
		n := 1 + d.below(min(6, sectors-s))
		q := api.Request{Type: pick[uint16](d, api.CmdWrite, api.CmdWrite, api.CmdWrite, api.CmdTrim, api.CmdZeroes), Offset: uint64(512 * s), Length: uint64(512 * n)}
		if q.Type == api.CmdWrite {
			q.Data = many(512*n, d.below(250))
		}
		list = append(list, q)
		for i := range n {
			changed[s+i] = true
		}
	}
	x.do(t, name, append(list, api.Request{Type: api.CmdFlush})...)
	return changed
}

func (x *site) peek(t *testing.T) []byte {
	t.Helper()
	b, e := x.s.Peek(x.index)
	want(t, "Peek", e, api.OK)
	return b
}

// newWorld throws for one: a source of any kind, a target of any kind that is not private; of a plan that says Dirty a source whose marks were cleared some time ago.
func newWorld(t *testing.T, d *dice, what string, met map[string]int) *world {
	t.Helper()
	w := &world{t: t, d: d, what: what, met: met}
	sectors := 1 + d.below(40)
	list := sourceExports(sectors)
	w.plan = api.CopyPlan{Source: "a", Target: "b", Chunk: pick[uint32](d, 4096, 8192), Flight: pick(d, 1, 2, 5, 64), Tries: 64, Dirty: d.below(3) == 0}
	index := d.below(3)
	if w.plan.Dirty {
		index = 1
	}
	w.plan.Source = list[index].Name
	from := newSite(t, d, list, index)
	more := pick(d, 0, 0, 1, 7)
	to := newSite(t, d, []api.Export{{Name: "other", Sectors: 3, Min: 1, Pref: 512}, {Name: "b", Sectors: sectors + more, Min: 1, Pref: 512, Tracked: d.bool(), Rotational: d.bool()}}, 1)
	w.sites = [2]*site{from, to}
	w.fillBoth(list[index].Private, sectors)
	c, e := copier.New(w.plan)
	want(t, "New", e, api.OK)
	w.c = c
	for _, x := range w.sites {
		x.before = x.peek(t)
		x.open()
	}
	return w
}

// fillBoth lays bytes down on both sides. Of a source whose marks count the target has what it had when these were cleared, or other bytes.
func (w *world) fillBoth(private bool, sectors int) {
	w.t.Helper()
	from, to := w.sites[0], w.sites[1]
	if !private { // what is done to a private one would not stay
		from.fill(w.t, w.d, w.plan.Source, sectors, w.d.below(8))
	}
	to.fill(w.t, w.d, "b", sectors, w.d.below(8))
	if !w.plan.Dirty {
		return
	}
	if w.d.bool() {
		to.do(w.t, "b", wholeOf(from.peek(w.t))...)
		w.met["a target with the source's bytes"]++
	}
	want(w.t, "SClear", from.s.Step(api.Step{Kind: api.SClear, N: from.index}).Err, api.OK)
	w.dirty = from.fill(w.t, w.d, w.plan.Source, sectors, w.d.below(5))
}

// wholeOf gives the requests that lay these bytes down.
func wholeOf(b []byte) []api.Request {
	var list []api.Request
	for at := 0; at < len(b); at += 512 {
		list = append(list, api.Request{Type: api.CmdWrite, Offset: uint64(at), Length: 512, Data: b[at : at+512]})
	}
	return append(list, api.Request{Type: api.CmdFlush})
}

func (w *world) look(x *site) api.ConnLook {
	for _, s := range x.s.Look().Conns {
		if s.Conn == x.conn {
			return s.Look
		}
	}
	return api.ConnLook{}
}

// step does one thing of a side that is thrown.
func (w *world) step(k int, losses, faults bool) {
	x := w.sites[k]
	x.up = append(x.up, w.c.Say(k)...)
	look := w.look(x)
	switch n := w.d.below(100); {
	case n < 20:
		w.feed(x, min(len(x.up), pick(w.d, 1, 20, 600, 10000)))
	case n < 40:
		x.down = append(x.down, x.s.Step(api.Step{Kind: api.STake, Conn: x.conn}).Out...)
	case n < 55 && len(look.Pending) > 0:
		w.run(x, w.d.below(len(look.Pending)))
	case n < 70 && len(look.Ready) > 0:
		x.down = append(x.down, x.s.Step(api.Step{Kind: api.SSend, Conn: x.conn, N: w.d.below(len(look.Ready))}).Out...)
	case n < 90:
		w.hear(k, min(len(x.down), pick(w.d, 1, 20, 600, 20000)))
	case n < 92:
		x.s.Step(api.Step{Kind: api.SWrite})
	case n == 92 && losses && w.d.below(3) == 0:
		w.lose(k)
	case n == 93 && faults:
		x.s.Step(api.Step{Kind: api.SFault, Fault: api.Fault{Kind: 1 + w.d.below(3), Sector: -1, After: w.d.below(4), Times: 1 + w.d.below(2)}})
	}
}

func (w *world) feed(x *site, n int) {
	x.up = x.up[x.s.Step(api.Step{Kind: api.SFeed, Conn: x.conn, Data: x.up[:n]}).N:]
}

func (w *world) run(x *site, n int) {
	if x.s.Step(api.Step{Kind: api.SRun, Conn: x.conn, N: n}).Code == api.EIO {
		w.met["EIO"]++
	}
}

func (w *world) hear(k, n int) {
	x := w.sites[k]
	want(w.t, w.what+": Hear", w.c.Hear(k, x.down[:n]), api.OK)
	x.down = x.down[n:]
}

// lose lets a side's connection be lost, with all that is on the line.
func (w *world) lose(k int) {
	s := w.c.State()
	if s.Phase >= api.CopyDone {
		return
	}
	w.met[fmt.Sprintf("side %d lost in phase %d", k, s.Phase)]++
	w.gone = w.gone || k == 0 && s.Phase == api.CopyWork
	w.sites[k].open()
	want(w.t, w.what+": Lost", w.c.Lost(k), api.OK)
	want(w.t, w.what+": what a loss changes", w.c.State(), s)
}

// settle serves both sides in rounds until the copy has ended.
func (w *world) settle() {
	w.t.Helper()
	for range 3000 {
		for k, x := range w.sites {
			x.up = append(x.up, w.c.Say(k)...)
			for range w.look(x).Pending {
				w.run(x, 0)
			}
			for range w.look(x).Ready {
				x.down = append(x.down, x.s.Step(api.Step{Kind: api.SSend, Conn: x.conn}).Out...)
			}
			x.down = append(x.down, x.s.Step(api.Step{Kind: api.STake, Conn: x.conn}).Out...)
			w.feed(x, len(x.up))
			w.hear(k, len(x.down))
		}
		if w.c.State().Phase >= api.CopyDone {
			return
		}
	}
	w.t.Fatalf("%s: it does not end: %+v", w.what, w.c.State())
}

// wantCopy looks that what was done is a copy, of which no crash takes anything back; and that the source is as it was.
func (w *world) wantCopy() {
	w.t.Helper()
	from, to := w.sites[0], w.sites[1]
	wantBytes(w.t, w.what+": the source", from.peek(w.t), from.before)
	size := len(from.before)
	got := to.peek(w.t)
	wantBytes(w.t, w.what+": further bytes", got[size:], to.before[size:])
	for s := range size / 512 {
		is, source, was := got[512*s:][:512], from.before[512*s:][:512], to.before[512*s:][:512]
		switch {
		case !w.plan.Dirty || w.dirty[s]:
			wantBytes(w.t, fmt.Sprint(w.what, ": sector ", s), is, source)
		case !w.gone || !bytes.Equal(is, source):
			wantBytes(w.t, fmt.Sprint(w.what, ": sector ", s, ", which is not dirty"), is, was)
		}
	}
	state := w.c.State()
	want(w.t, w.what+": Size", state.Size, uint64(size))
	want(w.t, w.what+": Done", state.Done, state.Size)
	want(w.t, w.what+": the parts", state.Copied+state.Zeroed+state.Skipped, state.Size)
	w.met[fmt.Sprintf("copied %v, zeroed %v, skipped %v", state.Copied > 0, state.Zeroed > 0, state.Skipped > 0)]++
	to.s.Step(api.Step{Kind: api.SCrash, Keep: nil})
	for range 300 { // faults that are armed may hinder it, once each
		if to.s.Step(api.Step{Kind: api.SStart}).Err == api.OK {
			break
		}
	}
	wantBytes(w.t, w.what+": behind a crash", to.peek(w.t), got)
}

// P23.8: between two servers, by any pieces and picks, with losses of either side, and with disks that fail: what is done is a copy; of a plan that says Dirty, of what is dirty. Without faults it never fails.
func TestBetweenServers(t *testing.T) {
	d := dice(11)
	met := map[string]int{}
	for r := range 400 {
		losses, faults := r%2 == 1, r%4 > 1
		w := newWorld(t, &d, fmt.Sprint("run ", r), met)
		for range d.below(2500) {
			w.step(d.below(2), losses, faults)
		}
		w.settle()
		state := w.c.State()
		met[fmt.Sprintf("source %s, dirty %v, losses %v, faults %v, phase %d", w.plan.Source, w.plan.Dirty, losses, faults, state.Phase)]++
		met[fmt.Sprintf("again %v", state.Again > 0)]++
		if state.Phase == api.CopyDone {
			w.wantCopy()
		} else {
			want(t, w.what+": it may fail", faults && state.Code == api.EIO && state.Off < uint64(max(1, state.Size)), true)
		}
		if t.Failed() {
			t.FailNow()
		}
	}
	for _, what := range []string{
		"source a, dirty false, losses false, faults false, phase 4", "source a, dirty false, losses true, faults true, phase 4", "source t, dirty true, losses false, faults false, phase 4", "source t, dirty true, losses true, faults false, phase 4",
		"source t, dirty true, losses true, faults true, phase 4", "source p, dirty false, losses true, faults false, phase 4", "a target with the source's bytes", "EIO", "again true", "again false",
		"side 0 lost in phase 1", "side 1 lost in phase 1", "side 0 lost in phase 2", "side 1 lost in phase 2", "side 0 lost in phase 3", "side 1 lost in phase 3",
		"copied true, zeroed true, skipped false", "copied false, zeroed true, skipped false", "copied true, zeroed true, skipped true", "copied false, zeroed false, skipped true",
	} {
		if met[what] < 3 {
			t.Errorf("%s: only %d times", what, met[what])
		}
	}
}

// P23.8: a read-only source with blocks of 512 bytes is copied; a read-only target is not: its zeroes are refused, and asked again up to Tries.
func TestReadOnlyExports(t *testing.T) {
	d := dice(4)
	for _, name := range []string{"a", "r"} {
		w := &world{t: t, d: &d, what: "read-only", met: map[string]int{}}
		w.plan = api.CopyPlan{Source: "r", Target: name, Chunk: 8192, Flight: 2, Tries: 3}
		w.sites = [2]*site{newSite(t, &d, sourceExports(20), 3), newSite(t, &d, sourceExports(20), map[string]int{"a": 0, "r": 3}[name])}
		w.c, _ = copier.New(w.plan)
		for _, x := range w.sites {
			x.before = x.peek(t)
			x.open()
		}
		w.settle()
		if name == "a" {
			w.wantCopy()
			continue
		}
		want(t, "a read-only target", w.c.State(), api.CopyState{Phase: api.CopyFailed, Size: 10240, Again: 4, Side: 1, Code: api.EPerm})
	}
}

// P23.3: an export that is not there, on either side; a source whose marks are wanted and that is not tracked; a target that is too small.
func TestServersThatDoNotFit(t *testing.T) {
	d := dice(5)
	for _, x := range []struct {
		plan  api.CopyPlan
		side  int
		size  uint64
		fewer int
	}{
		{api.CopyPlan{Source: "none", Target: "a"}, 0, 0, 0},
		{api.CopyPlan{Source: "a", Target: "none"}, 1, 0, 0},
		{api.CopyPlan{Source: "a", Target: "a", Dirty: true}, 0, 10240, 0},
		{api.CopyPlan{Source: "t", Target: "a"}, 1, 10240, 1},
	} {
		w := &world{t: t, d: &d, what: fmt.Sprintf("%+v", x.plan), plan: x.plan, met: map[string]int{}}
		w.plan.Chunk, w.plan.Flight, w.plan.Tries = 4096, 1, 1
		w.sites = [2]*site{newSite(t, &d, sourceExports(20), 0), newSite(t, &d, sourceExports(20-x.fewer), 0)}
		w.c, _ = copier.New(w.plan)
		for _, y := range w.sites {
			y.open()
		}
		w.settle()
		want(t, w.what, w.c.State(), api.CopyState{Phase: api.CopyFailed, Size: x.size, Side: x.side})
	}
}
