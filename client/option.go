package client

import (
	"slices"

	"spindle/api"
	"spindle/wire"
)

// An option is the one that is outstanding, and what its answers have told.
type option struct {
	code     uint32
	export   *api.Info // Size and Flags of the InfoExport that INFO or GO told
	contexts []uint32  // those that SET_META_CONTEXT told
}

// hearExport hears the answer to EXPORT_NAME.
func (c *Client) hearExport(x api.ExportReply) []api.Event {
	c.asked = nil
	return c.start(api.Info{Size: x.Size, Flags: x.Flags})
}

// start begins the transmission.
func (c *Client) start(export api.Info) []api.Event {
	c.phase, c.requests = api.ClientWork, map[uint64]*request{}
	return []api.Event{{Kind: api.EvStart, Info: export}}
}

// errorBit is that of an answer's Kind that refuses.
const errorBit = 1 << 31

// hearOption hears an answer to any other option.
func (c *Client) hearOption(r api.OptionReply) []api.Event {
	switch {
	case r.Option != c.asked.code:
		return c.breaks()
	case r.Kind&errorBit != 0:
		return c.refused(r.Kind)
	case r.Kind == api.RepAck:
		return c.acknowledged(r.Data)
	}
	event, ok := c.asked.tell(r.Kind, r.Data)
	if !ok {
		return c.breaks()
	}
	return []api.Event{event}
}

// refused ends the option: it came to nothing.
func (c *Client) refused(kind uint32) []api.Event {
	code := c.asked.code
	c.asked = nil
	if code == api.OptSetMeta {
		c.chosen = nil
	}
	return []api.Event{{Kind: api.EvRefused, Option: code, Code: kind}}
}

// acknowledged ends the option: it went well.
func (c *Client) acknowledged(data []byte) []api.Event {
	o := c.asked
	if len(data) > 0 || o.informs() && o.export == nil {
		return c.breaks()
	}
	c.asked = nil
	heard := []api.Event{{Kind: api.EvAck, Option: o.code}}
	switch o.code {
	case api.OptGo:
		heard = append(heard, c.start(*o.export)...)
	case api.OptStructured:
		c.chunks = true
	case api.OptExtended:
		c.chunks, c.extended = true, true
	case api.OptSetMeta:
		c.chosen = o.contexts
	case api.OptAbort:
		c.phase = api.ClientClosing
	}
	return heard
}

func (o *option) informs() bool { return o.code == api.OptInfo || o.code == api.OptGo }

// tell gives what an answer tells that is not the option's last one, if the option has such answers.
func (o *option) tell(kind uint32, data []byte) (api.Event, bool) {
	switch {
	case kind == api.RepServer && o.code == api.OptList:
		s, e := wire.UnpackServer(data)
		return api.Event{Kind: api.EvExport, Option: o.code, Text: s.Name}, e == api.OK
	case kind == api.RepInfo && o.informs():
		i, e := wire.UnpackInfo(data)
		return api.Event{Kind: api.EvInfo, Option: o.code, Info: i}, e == api.OK && o.takeInfo(i)
	case kind == api.RepMeta && (o.code == api.OptListMeta || o.code == api.OptSetMeta):
		m, e := wire.UnpackMeta(data)
		return api.Event{Kind: api.EvMeta, Option: o.code, Meta: m}, e == api.OK && o.takeContext(m.ID)
	}
	return api.Event{}, false
}

// takeInfo takes an information down: the export's own comes first, and once.
func (o *option) takeInfo(i api.Info) bool {
	first := o.export == nil
	if first {
		o.export = &api.Info{Size: i.Size, Flags: i.Flags}
	}
	return first == (i.Kind == api.InfoExport)
}

// takeContext takes a context down that is to be chosen: each once, and not too many.
func (o *option) takeContext(id uint32) bool {
	if o.code != api.OptSetMeta {
		return true
	}
	if slices.Contains(o.contexts, id) || len(o.contexts) == api.MaxQueries {
		return false
	}
	o.contexts = append(o.contexts, id)
	return true
}
