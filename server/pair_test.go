package server_test

import (
	"bytes"
	"fmt"
	"slices"
	"testing"

	"spindle/api"
	"spindle/server"
)

// A pair is a server and a plain one, of which the same is asked. What is handed in has spare room, must come back as it was, and is written over then; so is what is answered, behind being looked at (R4).
type pair struct {
	t     *testing.T
	s     *server.Server
	p     *plain
	what  string
	quiet bool // what is told is not looked at behind each step
}

func newPair(t *testing.T, image []byte, c api.Config) *pair {
	t.Helper()
	handed := roomy(image, 0xaa)
	before := bytes.Clone(whole(handed))
	s := started(t, handed, c)
	wantBytes(t, "what New was handed", whole(handed), before)
	spoil(handed, 0xee)
	return &pair{t: t, s: s, p: newPlain(image, c), what: "new"}
}

// step does a step on both.
func (x *pair) step(step api.Step) api.Answer {
	x.t.Helper()
	handed := step
	handed.Data, handed.Keep = roomy(step.Data, 0xaa), roomy(step.Keep, true)
	data, keep := bytes.Clone(whole(handed.Data)), slices.Clone(whole(handed.Keep))
	got := x.s.Step(handed)
	wantBytes(x.t, x.what+": the data that were handed in", whole(handed.Data), data)
	wantSame(x.t, x.what+": what was to be kept", whole(handed.Keep), keep)
	spoil(handed.Data, 0xed)
	spoil(handed.Keep, true)
	wanted := x.p.step(step)
	wantAnswer(x.t, fmt.Sprintf("%s: step %d", x.what, step.Kind), got, wanted)
	spoil(got.Out, 0xec)
	spoil(got.Took.Task.Req.Data, 0xeb)
	if !x.quiet {
		x.look()
	}
	return wanted
}

func wantAnswer(t *testing.T, what string, got, wanted api.Answer) {
	t.Helper()
	wantBytes(t, what+": Out", got.Out, wanted.Out)
	got.Out, wanted.Out = nil, nil
	wantSame(t, what, got, wanted)
}

// look looks that all that is told of the two is the same.
func (x *pair) look() {
	x.t.Helper()
	want(x.t, x.what+": Up", x.s.Up(), x.p.up)
	l := x.s.Label()
	wantSame(x.t, x.what+": Label", l, x.p.labelNow())
	spoil(l.Exports, api.Export{Name: "spoilt"})
	look := x.s.Look()
	wantSame(x.t, x.what+": Look", look, x.p.look())
	spoilLook(look)
	for i := -1; i <= 4; i++ {
		b, e := x.s.Peek(i)
		wanted, f := x.p.peek(i)
		want(x.t, fmt.Sprint(x.what, ": Peek ", i), e, f)
		wantBytes(x.t, fmt.Sprint(x.what, ": Peek ", i), b, wanted)
		spoil(b, 0xea)
	}
	image, queue := x.s.Image(), x.s.Queue()
	wantBytes(x.t, x.what+": Image", image, x.p.disk.Image())
	wantQueue(x.t, x.what, queue, x.p.disk.Queue())
	spoil(image, 0xe9)
	for _, put := range queue {
		spoil(put.Data, 0xe8)
	}
	spoil(queue, api.Put{Sector: 99})
	if x.t.Failed() {
		x.t.FailNow()
	}
}

func spoilLook(look api.ServerLook) {
	for _, c := range look.Conns {
		spoil(c.Look.Session.Contexts, 99)
		spoil(c.Look.Pending, 98)
		spoil(c.Look.Ready, 97)
	}
	spoil(look.Conns, api.Served{Conn: 96})
	spoil(look.Lines, api.Line{Sector: 95})
}

// begin leads a new connection to the transmission with an export, in some form.
func (x *pair) begin(f form, export string) int {
	x.t.Helper()
	c := x.step(opens()).Conn
	for _, ask := range append([][]byte{flagBytes(3)}, f.asks(export)...) {
		x.step(feeds(c, ask))
		x.step(takes(c))
	}
	return c
}

// ask feeds a request and takes it.
func (x *pair) ask(c int, q api.Request) {
	x.t.Helper()
	x.step(feeds(c, requestBytes(q, x.p.conns[c].Session().Extended)))
	x.step(takes(c))
}
