package trace

import (
	"spindle/api"
	"spindle/wire"
)

const (
	flagsSize = 4

	// knownFlags are those that a client may say, and a greeting.
	knownFlags = api.HandFixed | api.HandNoZeroes

	// headAlone is the greatest length that decoders are to take: they tell a head without its data then, which may be long and not there.
	headAlone = 0
)

// What the client's next bytes are looked at as.

func (x *line) flags() (api.Record, bool)  { return x.client.whole(flagsSize, x.seeFlags) }
func (x *line) option() (api.Record, bool) { return x.client.whole(api.OptionHead, x.seeOption) }

func (x *line) request() (api.Record, bool) {
	if x.extended {
		return x.client.whole(api.RequestHead64, x.seeRequest)
	}
	return x.client.whole(api.RequestHead, x.seeRequest)
}

// wait sees nothing: the last answer of the option that was said decides what the bytes behind it are. If none can be seen any more, they need not be held.
func (x *line) wait() (api.Record, bool) {
	if x.server.look == nil {
		x.client.end()
	}
	return api.Record{}, false
}

// seeFlags sees the client's flags (P22.3).
func (x *line) seeFlags(head []byte) api.Record {
	flags, _, _ := wire.DecodeFlags(head)
	if flags&^knownFlags != 0 {
		return x.client.wrong()
	}
	x.client.cut(head, 0)
	x.client.look = x.option
	x.zeroes = flags&api.HandNoZeroes == 0
	return api.Record{Kind: api.RecFlags, Flags: flags}
}

// seeOption sees an option (P22.3).
func (x *line) seeOption(head []byte) api.Record {
	o, _, e := wire.DecodeOption(head, headAlone)
	if e == api.ErrMagic {
		return x.client.wrong()
	}
	size := uint64(o.Len)
	x.client.cut(head, size)
	if bars(o.Code) {
		x.client.look = x.wait
	}
	x.options = append(x.options, o.Code)
	x.tally.Options++
	return api.Record{Kind: api.RecOption, Code: o.Code, Size: size}
}

// bars tells whether what stands behind an option hangs on its last answer.
func bars(option uint32) bool {
	return option == api.OptGo || option == api.OptExportName || option == api.OptAbort
}

// seeRequest sees a request (P22.4).
func (x *line) seeRequest(head []byte) api.Record {
	q, _, e := wire.DecodeRequest(head, headAlone, x.extended)
	if e == api.ErrMagic {
		return x.client.wrong()
	}
	r := api.Record{Kind: api.RecRequest, Request: q}
	if e == api.ErrLong { // it has a payload, and of more than no byte
		r.Size = q.Length
	}
	switch {
	case q.Type == api.CmdDisc:
		x.client.end()
	case len(x.requests[q.Cookie]) > 0:
		x.server.end() // no answer could be told apart any more
		return x.client.wrong()
	default:
		x.client.cut(head, r.Size)
		r.N = x.await(q)
	}
	x.tally.Written += r.Size
	return r
}

// await takes a request down that is to be answered, and tells its number.
func (x *line) await(q api.Request) int {
	x.tally.Requests++
	n := x.tally.Requests
	x.requests[q.Cookie] = append(x.requests[q.Cookie], request{n: n, kind: q.Type, offset: q.Offset, length: q.Length})
	return n
}
