package trace_test

import (
	"fmt"
	"slices"
	"testing"

	"spindle/api"
	"spindle/client"
)

// A meeting is a client of layer 16 over a connection of layer 14, with a tap on the line.
type meeting struct {
	visit
	c     *client.Client
	row   []byte // what has passed and the client has not heard
	heard api.Tally
	wild  bool // what the connection says is tampered with, or said by somebody else
	begun bool
}

// ask lets the client ask anything, mostly what may be asked, also while nothing may.
func (m *meeting) ask() {
	m.t.Helper()
	d, c := m.d, m.c
	phase := c.Phase()
	if d.below(10) == 0 {
		phase = api.ClientPhase(1 + d.below(5))
	}
	name := pick(d, "", "nobody", m.name, m.name, m.name, m.name)
	var b []byte
	var e api.Errno
	switch phase {
	case api.ClientGreeting:
		b, _ = c.Flags(pick[uint32](d, 3, 3, 3, 3, 1, 1, 0, 2, 4))
	case api.ClientOptions:
		switch n := d.below(40); {
		case n == 0:
			b, e = c.Option(api.OptExportName, []byte(name))
		case n < 4:
			b, e = c.Option(pick[uint32](d, 2, 3, 5, 6, 7, 9, 10, 77), many(d.below(500)))
		case n < 16:
			b, e = c.Option(pick[uint32](d, 3, 8, 8, 11), nil)
		case n < 26:
			b, e = c.Meta(d.below(4) > 0, api.MetaRequest{Name: name, Queries: pick(d, nil, []string{"base:allocation"}, []string{"spindle:dirty", "x", "base:allocation"})})
		default:
			b, e = c.Info(d.below(3) > 0, api.InfoRequest{Name: name, Infos: pick(d, nil, []uint16{3, 1, 2, 9}, []uint16{3})})
		}
		if e == api.OK {
			m.heard.Options++
		}
	default:
		b = m.request()
	}
	m.says(b)
}

func (m *meeting) request() []byte {
	d := m.d
	q := asking(pick[uint16](d, 0, 0, 0, 0, 1, 1, 3, 4, 6, 7, 7, 9), uint64(d.below(3)), uint64(512*d.below(10)), uint64(pick(d, 512, 1+d.below(1500))), pick[uint16](d, 0, 0, 0, 1, 4, 8))
	switch {
	case q.Type == api.CmdFlush && d.bool():
		q.Offset, q.Length, q.Flags = 0, 0, 0
	case q.Type == api.CmdWrite:
		q.Data = many(int(q.Length))
	case d.below(100) == 0:
		q.Type = api.CmdDisc
	}
	b, _, e := m.c.Request(q)
	if e == api.OK && q.Type != api.CmdDisc {
		m.heard.Requests++
		m.heard.Written += uint64(len(q.Data))
	}
	return b
}

// deliver lets some of what the connection says pass, and then the client hear some of what has passed.
func (m *meeting) deliver(n int) {
	m.t.Helper()
	m.down = append(m.down, m.peer.Out()...)
	if m.wild && m.d.below(12) == 0 {
		m.down = append(m.down, m.serverWords()...)
	}
	n = min(n, len(m.down))
	b := slices.Clone(m.down[:n])
	m.down = m.down[n:]
	if m.wild && m.d.below(3) == 0 {
		b = spotted(m.d, b)
	}
	m.look(m.x.pass(true, b))
	m.row = append(m.row, b...)
	n = min(len(m.row), pick(m.d, 1, 30, len(m.row), len(m.row)))
	for _, e := range m.c.In(m.row[:n]) {
		m.met[fmt.Sprintf("event %d, wild %v", e.Kind, m.wild)]++
		switch {
		case e.Kind == api.EvDone && e.Code != 0:
			m.heard.Failed++
			fallthrough
		case e.Kind == api.EvDone:
			m.heard.Answered++
		case e.Kind == api.EvStart:
			m.begun = true
		}
	}
	m.row = m.row[n:]
}

// look looks that no side is wrong that may not be.
func (m *meeting) look(told []api.Record) {
	m.t.Helper()
	for _, r := range told {
		m.met[fmt.Sprintf("kind %d, wild %v", r.Kind, m.wild)]++
		if r.Kind == api.RecWrong && (!r.Server || !m.wild) {
			m.t.Fatalf("%s: wrong, the server %v", m.x.what, r.Server)
		}
	}
}

// move does one thing that is thrown.
func (m *meeting) move() {
	m.t.Helper()
	switch n := m.d.below(10); {
	case n < 2 && len(m.up) < 3000 && len(slices.Collect(m.c.Outstanding())) < 10:
		m.ask()
	case n < 4:
		m.feed(pick(m.d, 1, 20, 600, 3000))
	case n < 6:
		m.take()
	case n < 7:
		m.finish()
	case n < 8:
		m.send()
	default:
		m.deliver(pick(m.d, 1, 10, 50, 5000, 5000))
	}
	for _, r := range m.x.p.told {
		if r.Kind == api.RecWrong && (!r.Server || !m.wild) {
			m.t.Fatalf("%s: wrong, the server %v", m.x.what, r.Server)
		}
	}
}

func meet(t *testing.T, d *dice, what string, wild bool, met map[string]int) *meeting {
	t.Helper()
	return &meeting{visit: *newVisit(t, d, what, met), c: client.New(), wild: wild}
}

// P22.10, W3, W7: over a connection, whatever a client asks, neither side is wrong; what was counted is what the client asked and heard.
func TestClientsOverConnections(t *testing.T) {
	d := dice(27)
	met := map[string]int{}
	for r := range 700 {
		m := meet(t, &d, fmt.Sprint("run ", r), false, met)
		for n := range 100 + d.below(500) {
			m.x.what = fmt.Sprintf("run %d, step %d", r, n)
			m.move()
		}
		for range 300 {
			m.feed(len(m.up))
			m.take()
			m.finish()
			m.send()
			m.deliver(1 << 20)
		}
		m.deliver(len(m.down))
		m.c.In(m.row)
		got := m.x.x.Count()
		got.Read = 0 // holes are no bytes that pass
		want(t, m.x.what+": Count", got, m.heard)
		want(t, m.x.what+": outstanding", len(m.x.x.Open()), len(slices.Collect(m.c.Outstanding())))
		if m.begun {
			s := m.peer.Session()
			met[fmt.Sprintf("structured %v, extended %v", s.Structured, s.Extended)]++
		}
	}
	for _, what := range []string{"kind 1", "kind 4", "kind 7", "kind 8", "event 5", "event 6", "event 7", "event 8"} {
		if met[what+", wild false"] < 100 {
			t.Errorf("%s: only %d times", what, met[what+", wild false"])
		}
	}
	for _, what := range []string{"structured false, extended false", "structured true, extended false", "structured true, extended true"} {
		if met[what] < 20 {
			t.Errorf("%s: only %d times", what, met[what])
		}
	}
}

// P22.10: whatever is said to a client, and whatever it asks, it is never wrong.
func TestClientsOfWildServers(t *testing.T) {
	d := dice(28)
	met := map[string]int{}
	for r := range 1500 {
		m := meet(t, &d, fmt.Sprint("run ", r), true, met)
		for n := range 100 + d.below(300) {
			m.x.what = fmt.Sprintf("run %d, step %d", r, n)
			m.move()
			if t.Failed() {
				t.FailNow()
			}
		}
	}
	for _, what := range []string{"kind 1", "kind 4", "kind 7", "kind 8", "kind 9", "event 5", "event 7", "event 8", "event 9"} {
		if met[what+", wild true"] < 50 {
			t.Errorf("%s: only %d times", what, met[what+", wild true"])
		}
	}
}
