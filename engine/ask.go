package engine

import (
	"spindle/api"
	"spindle/client"
)

// ask has a client do what a line asks of it. Of an asking that there is not nothing comes, whoever is there.
func (p *play) ask(who int, q api.Ask) {
	if !asks(q.Kind) {
		return
	}
	g := p.guest(who)
	switch {
	case q.Kind == api.AskOpen:
		p.open(who)
	case g == nil:
		p.heard.Err = api.ErrAsk
	case q.Kind == api.AskClose:
		p.leave(who)
	default:
		var b []byte
		b, p.heard.Cookie, p.heard.Err = asked(g.client, q)
		g.mail = append(g.mail, b...)
	}
}

// open lets a client come, if the server lets its connection come. It must be there ahead of the greeting.
func (p *play) open(who int) {
	if who < 0 || who >= len(p.guests) || p.guests[who] != nil {
		p.heard.Err = api.ErrAsk
		return
	}
	x := api.Step{Kind: api.SOpen}
	a := p.server.Step(x)
	p.keep(x, a)
	if a.Err == api.OK {
		p.guests[who] = &guest{client: client.New(), conn: a.Conn, linked: true}
		p.pass(a.Conn, a.Out)
	}
}

// leave lets a client go.
func (p *play) leave(who int) {
	if g := p.guests[who]; g.linked {
		p.step(api.Step{Kind: api.SShut, Conn: g.conn})
	}
	p.guests[who] = nil
}

// asked gives what a client says to what it is asked, and the cookie of a request.
func asked(c *client.Client, q api.Ask) ([]byte, uint64, api.Errno) {
	switch q.Kind {
	case api.AskRequest:
		return c.Request(q.Req)
	case api.AskDisc:
		return c.Request(api.Request{Type: api.CmdDisc})
	}
	b, e := haggled(c, q)
	return b, 0, e
}

// haggled gives what it says ahead of the transmission.
func haggled(c *client.Client, q api.Ask) ([]byte, api.Errno) {
	switch q.Kind {
	case api.AskFlags:
		return c.Flags(q.Flags)
	case api.AskInfo, api.AskGo:
		return c.Info(q.Kind == api.AskGo, api.InfoRequest{Name: q.Name, Infos: q.Infos})
	case api.AskListMeta, api.AskSetMeta:
		return c.Meta(q.Kind == api.AskSetMeta, api.MetaRequest{Name: q.Name, Queries: q.Queries})
	case api.AskExport:
		return c.Option(api.OptExportName, []byte(q.Name))
	case api.AskOption:
		return c.Option(q.Code, q.Data)
	}
	return c.Option(plainOption(q.Kind), nil)
}

// plainOption gives the code of an option without data.
func plainOption(k api.AskKind) uint32 {
	switch k {
	case api.AskAbort:
		return api.OptAbort
	case api.AskStructured:
		return api.OptStructured
	case api.AskExtended:
		return api.OptExtended
	}
	return api.OptList
}
