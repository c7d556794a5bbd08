package audit_test

import (
	"fmt"
	"slices"
	"testing"

	"spindle/api"
	"spindle/client"
	"spindle/server"
)

// A witness has a server, and a client of each of its exports.
type witness struct {
	t       *testing.T
	d       *dice
	s       *server.Server
	label   api.Label
	clients []*client.Client
	conns   []int
}

func newWitness(t *testing.T, d *dice) *witness {
	t.Helper()
	b, e := server.Format(severalSize+d.below(3), several())
	want(t, "Format", e, api.OK)
	s, e := server.New(b, api.Config{Lines: pick(d, 1, 3, 16), Conns: 4, Limits: api.Limits{Payload: 8192, Option: 400, Flight: 4}})
	want(t, "New", e, api.OK)
	w := &witness{t: t, d: d, s: s, label: several()}
	w.begin()
	return w
}

func (w *witness) step(x api.Step) api.Answer {
	w.t.Helper()
	a := w.s.Step(x)
	want(w.t, fmt.Sprint("step ", x.Kind), a.Err, api.OK)
	return a
}

// begin lets a client of each export come.
func (w *witness) begin() {
	w.t.Helper()
	w.clients, w.conns = nil, nil
	for _, x := range w.label.Exports {
		c := client.New()
		a := w.step(api.Step{Kind: api.SOpen})
		c.In(a.Out)
		flags, _ := c.Flags(3)
		ask, _ := c.Info(true, api.InfoRequest{Name: x.Name, Infos: []uint16{api.InfoBlock}})
		w.step(api.Step{Kind: api.SFeed, Conn: a.Conn, Data: append(flags, ask...)})
		for range 2 {
			c.In(w.step(api.Step{Kind: api.STake, Conn: a.Conn}).Out)
		}
		want(w.t, "the phase", c.Phase(), api.ClientWork)
		w.clients, w.conns = append(w.clients, c), append(w.conns, a.Conn)
	}
}

// ask lets a client ask something, which is done at once, and may fail.
func (w *witness) ask() {
	w.t.Helper()
	n := w.d.below(len(w.clients))
	sectors := w.label.Exports[n].Sectors
	lo := w.d.below(sectors)
	q := api.Request{Type: pick[uint16](w.d, api.CmdWrite, api.CmdWrite, api.CmdWrite, api.CmdTrim, api.CmdZeroes, api.CmdFlush),
		Offset: uint64(512 * lo), Length: uint64(512 * (1 + w.d.below(sectors-lo)))}
	switch {
	case q.Type == api.CmdFlush:
		q.Offset, q.Length = 0, 0
	case q.Type == api.CmdWrite:
		q.Data = of(int(q.Length), byte(1+w.d.below(255)))
	case w.d.bool():
		q.Flags = api.FlagFua
	}
	b, _, e := w.clients[n].Request(q)
	want(w.t, "Request", e, api.OK)
	w.step(api.Step{Kind: api.SFeed, Conn: w.conns[n], Data: b})
	w.step(api.Step{Kind: api.STake, Conn: w.conns[n]})
	w.step(api.Step{Kind: api.SRun, Conn: w.conns[n], N: 0})
	w.clients[n].In(w.step(api.Step{Kind: api.SSend, Conn: w.conns[n], N: 0}).Out)
}

// goOn does one thing that is thrown.
func (w *witness) goOn(faults bool) {
	w.t.Helper()
	switch n := w.d.below(10); {
	case n < 7:
		w.ask()
	case n == 7:
		w.s.Step(api.Step{Kind: api.SWrite})
	case n == 8:
		w.s.Step(api.Step{Kind: api.SClear, N: w.d.below(4)})
	case faults:
		w.step(api.Step{Kind: api.SFault, Fault: api.Fault{Kind: 1 + w.d.below(3), Sector: -1, After: w.d.below(12), Times: 1, Land: w.d.bool()}})
	}
}

// fall lets the machine fall and start again; in between its disk is looked over, and the auditor tells what the server tells then.
func (w *witness) fall(what string) {
	w.t.Helper()
	keep := make([]bool, len(w.s.Queue()))
	for i := range keep {
		keep[i] = w.d.bool()
	}
	w.step(api.Step{Kind: api.SCrash, Keep: keep})
	b := image(w.s.Image())
	a := look(w.t, what, b)
	want(w.t, what+": Clean", cleanOf(w.t, a), true)
	w.step(api.Step{Kind: api.SStart})
	want(w.t, what+": the label", slices.Equal(w.s.Label().Exports, a.Label.Exports), true)
	for n := range w.label.Exports {
		array, e := w.s.Peek(n)
		want(w.t, what+": Peek", e, api.OK)
		wantExport(w.t, what, b, n, array)
	}
	wantAudit(w.t, what+": started again", look(w.t, what, w.s.Image()), a)
}

// W8, P21.7: an auditor finds every crash of a server clean, and each moment of one that is up, and reads what the server tells.
func TestServers(t *testing.T) {
	laid, marked := 0, 0
	for seed := range 40 {
		d := dice(seed)
		w := newWitness(t, &d)
		for round := range 4 {
			what := fmt.Sprint("server ", seed, ", round ", round)
			for range 12 {
				w.goOn(seed%2 == 1)
				a := look(t, what, w.s.Image())
				want(t, what+": Clean", cleanOf(t, a), true)
				laid, marked = laid+a.Exports[0].Laid, marked+a.Exports[1].Marked
				want(t, what+": nothing of a private export is on the disk", a.Exports[3], api.Counted{})
			}
			w.fall(what)
			w.begin()
			if t.Failed() {
				t.Fatal(what)
			}
		}
	}
	want(t, "something was laid out and marked", laid > 0 && marked > 0, true)
}
