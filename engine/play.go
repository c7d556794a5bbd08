package engine

import (
	"bytes"
	"slices"

	"spindle/api"
	"spindle/client"
	"spindle/server"
)

// A play is a script that is being played: its server, its clients, and what came of the line that is being done.
type play struct {
	server *server.Server
	guests [api.MaxClients]*guest // those that are there
	heard  api.Heard
}

// do does a line, and gives what came of it.
func (p *play) do(l api.ScriptLine) api.Heard {
	p.heard = api.Heard{}
	switch l.Kind {
	case api.LineStep:
		p.step(l.Step)
	case api.LineClient:
		p.ask(l.Who, l.Ask)
	case api.LineSay:
		p.say(l.Who, l.N)
	case api.LineMove:
		p.move(l.Who)
	}
	return p.heard
}

// step makes a step of the server.
func (p *play) step(x api.Step) api.Answer {
	a := p.server.Step(x)
	p.keep(x, a)
	p.pass(connOf(x, a), a.Out)
	if x.Kind == api.SCrash {
		p.lose()
	}
	return a
}

// keep takes down a step and its answer.
func (p *play) keep(x api.Step, a api.Answer) {
	x.Data, x.Keep = bytes.Clone(x.Data), slices.Clone(x.Keep)
	p.heard.Steps = append(p.heard.Steps, x)
	p.heard.Answers = append(p.heard.Answers, a)
}

// connOf tells on which connection the bytes of a step have left.
func connOf(x api.Step, a api.Answer) int {
	if x.Kind == api.SOpen {
		return a.Conn
	}
	return x.Conn
}

// pass lets bytes that left on a connection reach the client that has it.
func (p *play) pass(conn int, out []byte) {
	for _, g := range p.guests {
		if g != nil && g.has(conn) && len(out) > 0 {
			p.heard.Events = append(p.heard.Events, g.client.In(out)...)
		}
	}
}

// lose takes all clients' connections away.
func (p *play) lose() {
	for _, g := range p.guests {
		if g != nil {
			g.linked = false
		}
	}
}

// report tells how all stands at the end, behind what came of the lines.
func (p *play) report(heard []api.Heard) api.Report {
	r := api.Report{Heard: heard, Up: p.server.Up(), Queue: len(p.server.Queue())}
	for i := range p.server.Label().Exports { // one that is down has no label
		b, _ := p.server.Peek(i)
		r.Exports = append(r.Exports, b)
	}
	return r
}

// A guest is a client of a script: its client of layer 16, its connection, if it has one, and what it has to say and was not fed.
type guest struct {
	client *client.Client
	conn   int
	linked bool
	mail   []byte
}

func (g *guest) has(conn int) bool { return g.linked && g.conn == conn }

// guest gives the client of a number, if it is there.
func (p *play) guest(who int) *guest {
	if who < 0 || who >= len(p.guests) {
		return nil
	}
	return p.guests[who]
}

// linked gives the client of a number, if it is there and has a connection.
func (p *play) linked(who int) *guest {
	if g := p.guest(who); g != nil && g.linked {
		return g
	}
	return nil
}

// say feeds so many bytes of what a client has to say.
func (p *play) say(who, n int) {
	g := p.linked(who)
	if g == nil || n < 0 {
		p.heard.Err = api.ErrAsk
		return
	}
	a := p.step(api.Step{Kind: api.SFeed, Conn: g.conn, Data: g.mail[:min(n, len(g.mail))]})
	g.mail = g.mail[a.N:]
}
