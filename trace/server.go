package trace

import (
	"spindle/api"
	"spindle/wire"
)

// errorBit is that of an answer's kind that refuses an option.
const errorBit = 1 << 31

// An exchange is an option, and the kind of an answer to it.
type exchange struct {
	option uint32
	kind   uint32
}

// partial are the answers behind which more come.
var partial = [...]exchange{
	{api.OptList, api.RepServer},
	{api.OptInfo, api.RepInfo},
	{api.OptGo, api.RepInfo},
	{api.OptListMeta, api.RepMeta},
	{api.OptSetMeta, api.RepMeta},
}

// What the server's next bytes are looked at as, ahead of the transmission.

func (x *line) greeting() (api.Record, bool) {
	return x.server.whole(api.GreetingSize, x.seeGreeting)
}

func (x *line) reply() (api.Record, bool) {
	switch {
	case len(x.options) == 0:
		return x.server.whole(1, x.seeUnawaited)
	case x.options[0] != api.OptExportName:
		return x.server.whole(api.ReplyHead, x.seeReply)
	case x.zeroes:
		return x.server.whole(api.ExportSize+api.ExportZeroes, x.seeExport)
	}
	return x.server.whole(api.ExportSize, x.seeExport)
}

// seeGreeting sees the greeting (P22.5).
func (x *line) seeGreeting(head []byte) api.Record {
	g, _, e := wire.DecodeGreeting(head)
	if e != api.OK || g.Flags&api.HandFixed == 0 || g.Flags&^knownFlags != 0 {
		return x.server.wrong()
	}
	x.server.cut(head, 0)
	x.server.look = x.reply
	return api.Record{Kind: api.RecGreeting, Flags: uint32(g.Flags)}
}

// seeUnawaited sees bytes to which nobody has asked anything (P22.5).
func (x *line) seeUnawaited([]byte) api.Record { return x.server.wrong() }

// seeExport sees the answer to EXPORT_NAME (P22.6).
func (x *line) seeExport(head []byte) api.Record {
	r, _, e := wire.DecodeExport(head, x.zeroes)
	if e != api.OK {
		return x.server.wrong()
	}
	x.server.cut(head, 0)
	x.options = x.options[1:]
	x.begin()
	return api.Record{Kind: api.RecExport, Code: api.OptExportName, Size: r.Size, Flags: uint32(r.Flags), Last: true}
}

// begin begins the transmission.
func (x *line) begin() {
	x.client.look = x.request
	x.server.look = x.answer
}

// seeReply sees an answer to any other option (P22.6).
func (x *line) seeReply(head []byte) api.Record {
	r, _, e := wire.DecodeReply(head, headAlone)
	last := r.Kind == api.RepAck || r.Kind&errorBit != 0
	if e == api.ErrMagic || r.Option != x.options[0] || !last && !isPartial(exchange{r.Option, r.Kind}) {
		return x.server.wrong()
	}
	size := number(head[api.ReplyHead-4:])
	x.server.cut(head, size)
	if last {
		x.options = x.options[1:]
		x.settle(r.Option, r.Kind == api.RepAck)
	}
	return api.Record{Kind: api.RecReply, Code: r.Option, Flags: r.Kind, Size: size, Last: last}
}

func isPartial(asked exchange) bool {
	for _, p := range partial {
		if p == asked {
			return true
		}
	}
	return false
}

// settle is what an option's last answer leads to.
func (x *line) settle(option uint32, well bool) {
	switch {
	case !well && bars(option):
		x.client.look = x.option
	case !well:
	case option == api.OptGo:
		x.begin()
	case option == api.OptAbort:
		x.client.end()
	case option == api.OptStructured:
		x.chunks = true
	case option == api.OptExtended:
		x.chunks, x.extended = true, true
	}
}
