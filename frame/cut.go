package frame

import (
	"spindle/api"
	"spindle/wire"
)

// A cutter is what a cut is made by: the inbox, and the decoder that is asked what stands at the front of its bytes. A decoder tells memory of its own, so that what is cut may go.
type cutter[M any] struct {
	inbox  *Inbox
	decode func(held []byte) (M, int, api.Errno)
}

// cut cuts a message off, if all of it is there (P9.3).
func (c cutter[M]) cut() (M, api.Cut) {
	var none M
	if !c.inbox.usable() || c.inbox.over > 0 {
		return none, api.CutMore
	}
	m, n, e := c.decode(c.inbox.held)
	switch e {
	case api.OK:
		c.inbox.drop(n)
		return m, api.CutDone
	case api.ErrShort:
		return none, api.CutMore
	case api.ErrLong:
		return none, api.CutLong
	}
	return none, api.CutBad
}

// Greeting cuts a greeting.
func (x *Inbox) Greeting() (api.Greeting, api.Cut) {
	return cutter[api.Greeting]{x, wire.DecodeGreeting}.cut()
}

// Flags cuts a client's flags.
func (x *Inbox) Flags() (uint32, api.Cut) {
	return cutter[uint32]{x, wire.DecodeFlags}.cut()
}

// Option cuts an option; of one that is too long its head, and the bytes behind that are passed over (P9.4).
func (x *Inbox) Option(most uint32) (api.Option, api.Cut) {
	o, c := cutter[api.Option]{x, func(held []byte) (api.Option, int, api.Errno) { return decodeOption(held, most) }}.cut()
	if o.Long {
		x.over = o.Len
		x.drop(x.pass(len(x.held)))
	}
	return o, c
}

// decodeOption lets the head alone of an option that is too long be cut as a whole message; Long tells it from others.
func decodeOption(held []byte, most uint32) (api.Option, int, api.Errno) {
	o, n, e := wire.DecodeOption(held, most)
	if e == api.ErrLong {
		e = api.OK
	}
	return o, n, e
}

// OptionReply cuts an answer to an option.
func (x *Inbox) OptionReply(most uint32) (api.OptionReply, api.Cut) {
	return cutter[api.OptionReply]{x, func(held []byte) (api.OptionReply, int, api.Errno) { return wire.DecodeReply(held, most) }}.cut()
}

// ExportReply cuts the answer to EXPORT_NAME.
func (x *Inbox) ExportReply(zeroes bool) (api.ExportReply, api.Cut) {
	return cutter[api.ExportReply]{x, func(held []byte) (api.ExportReply, int, api.Errno) { return wire.DecodeExport(held, zeroes) }}.cut()
}

// Request cuts a request.
func (x *Inbox) Request(most uint32, extended bool) (api.Request, api.Cut) {
	return cutter[api.Request]{x, func(held []byte) (api.Request, int, api.Errno) { return wire.DecodeRequest(held, most, extended) }}.cut()
}

// Reply cuts the head of a simple answer, or a chunk (P9.5).
func (x *Inbox) Reply(most uint32, extended bool) (api.Reply, api.Cut) {
	return cutter[api.Reply]{x, func(held []byte) (api.Reply, int, api.Errno) { return decodeReply(held, most, extended) }}.cut()
}

// magicSize is how many bytes tell which kind of answer it is.
const magicSize = 4

func decodeReply(held []byte, most uint32, extended bool) (api.Reply, int, api.Errno) {
	if len(held) < magicSize {
		return api.Reply{}, magicSize, api.ErrShort
	}
	magic := number(held[:magicSize])
	switch {
	case extended && magic == api.MagicChunk64, !extended && magic == api.MagicChunk:
		c, n, e := wire.DecodeChunk(held, most, extended)
		return api.Reply{Structured: true, Chunk: c}, n, e
	case !extended && magic == api.MagicSimple:
		s, n, e := wire.DecodeSimple(held)
		return api.Reply{Simple: s}, n, e
	}
	return api.Reply{}, 0, api.ErrMagic
}

func number(b []byte) uint32 {
	var v uint32
	for _, digit := range b {
		v = v<<8 | uint32(digit)
	}
	return v
}

// Data cuts n bytes (P9.6).
func (x *Inbox) Data(n int) ([]byte, api.Cut) {
	return cutter[[]byte]{x, func(held []byte) ([]byte, int, api.Errno) { return decodeData(held, n) }}.cut()
}

func decodeData(held []byte, n int) ([]byte, int, api.Errno) {
	switch {
	case n < 0:
		return nil, 0, api.ErrForm
	case n > len(held):
		return nil, n, api.ErrShort
	}
	return append([]byte(nil), held[:n]...), n, api.OK
}
