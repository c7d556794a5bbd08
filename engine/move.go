package engine

import "spindle/api"

// move serves a client, until there is nothing more to do.
func (p *play) move(who int) {
	g := p.linked(who)
	if g == nil {
		p.heard.Err = api.ErrAsk
		return
	}
	for p.round(g) {
	}
}

// round makes each step of a round, and tells whether another round is to come.
func (p *play) round(g *guest) bool {
	did := false
	for _, x := range g.steps() {
		a := p.server.Step(x)
		p.pass(x.Conn, a.Out)
		if !counts(x, a) {
			continue
		}
		p.keep(x, a)
		if a.Err != api.OK {
			return false
		}
		if x.Kind == api.SFeed {
			g.mail = g.mail[a.N:]
		}
		did = true
	}
	return did
}

// steps are those of a round.
func (g *guest) steps() []api.Step {
	var out []api.Step
	if len(g.mail) > 0 {
		out = append(out, api.Step{Kind: api.SFeed, Conn: g.conn, Data: g.mail})
	}
	for _, k := range []api.StepKind{api.STake, api.SRun, api.SSend} {
		out = append(out, api.Step{Kind: k, Conn: g.conn})
	}
	return out
}

// counts tells whether a step of a round has done something, or has gone wrong, so that it is kept. That nothing waits to be done, or to leave, is neither.
func counts(x api.Step, a api.Answer) bool {
	switch {
	case x.Kind == api.SRun || x.Kind == api.SSend:
		return a.Err != api.ErrStep
	case x.Kind == api.SFeed:
		return a.N > 0 || a.Err != api.OK
	}
	return a.Took.Kind != api.TookNone || a.Err != api.OK
}
