package client

import "spindle/api"

// In hears bytes, and tells what it has heard (P16.6).
func (c *Client) In(b []byte) []api.Event {
	var heard []api.Event
	for c.hears() && len(b) > 0 {
		b = b[c.inbox.Feed(b):]
		heard = append(heard, c.hearHeld()...)
	}
	return heard
}

func (c *Client) hears() bool { return c != nil && c.inbox != nil }

// hearHeld hears all that is whole of what the inbox holds.
func (c *Client) hearHeld() []api.Event {
	var heard []api.Event
	for more := true; more && c.hears(); {
		var events []api.Event
		events, more = c.hearNext()
		heard = append(heard, events...)
	}
	return heard
}

// hearNext cuts the message that is awaited, and leads it to what is heard by it; it tells whether there may be more.
func (c *Client) hearNext() ([]api.Event, bool) {
	switch {
	case c.phase == api.ClientGreeting && c.flags == 0:
		g, cut := c.inbox.Greeting()
		return lead(c, g, cut, c.hearGreeting)
	case c.asked != nil && c.asked.code == api.OptExportName:
		x, cut := c.inbox.ExportReply(c.flags&api.HandNoZeroes == 0)
		return lead(c, x, cut, c.hearExport)
	case c.asked != nil:
		r, cut := c.inbox.OptionReply(api.MaxOption)
		return lead(c, r, cut, c.hearOption)
	case c.reading != nil:
		data, cut := c.inbox.Data(int(c.reading.Length))
		return lead(c, data, cut, c.hearRead)
	case c.requests != nil:
		r, cut := c.inbox.Reply(mostBody, c.extended)
		return lead(c, r, cut, c.hearAnswer)
	case c.inbox.Held() > 0: // nothing is awaited
		return c.breaks(), false
	}
	return nil, false
}

// lead hands a message that was cut to what hears it; bytes that are none break the client.
func lead[M any](c *Client, m M, cut api.Cut, hear func(M) []api.Event) ([]api.Event, bool) {
	switch cut {
	case api.CutMore:
		return nil, false
	case api.CutDone:
		return hear(m), true
	}
	return c.breaks(), false
}

// breaks makes the client a broken one, of which only what was never answered is told any more.
func (c *Client) breaks() []api.Event {
	*c = Client{phase: api.ClientBroken, requests: c.requests}
	for _, q := range c.requests {
		q.forget()
	}
	return []api.Event{{Kind: api.EvBroken}}
}

// knownFlags are those that a greeting may say.
const knownFlags = api.HandFixed | api.HandNoZeroes

func (c *Client) hearGreeting(g api.Greeting) []api.Event {
	if g.Flags&api.HandFixed == 0 || g.Flags&^knownFlags != 0 {
		return c.breaks()
	}
	c.flags = uint32(g.Flags)
	return []api.Event{{Kind: api.EvGreeting, Flags: c.flags}}
}
