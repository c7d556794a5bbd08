package wire_test

import (
	"spindle/api"
	"spindle/wire"
)

// A sample is a message and, laid down by hand, its bytes.
type sample struct {
	message any
	bytes   []byte
}

// A form is a kind of message: how many bytes its head has, how many of these are magics (from the first on), and its calls in one shape for all kinds. One that tells a length has bare: what is told of a message that is too long.
type form struct {
	name    string
	head    int
	magic   int
	encode  func(m any) ([]byte, api.Errno)
	decode  func(b []byte, most uint32) (any, int, api.Errno)
	zero    any
	bare    func(m any) any
	samples []sample
}

// forms are all kinds of messages, plain and extended, with zeroes and without.
func forms() []form {
	return []form{greeting(), flags(), option(), optionReply(), export(false), export(true), request(false), request(true), simple(), chunk(false), chunk(true)}
}

// measured are those that tell a length.
func measured() []form {
	var out []form
	for _, f := range forms() {
		if f.bare != nil {
			out = append(out, f)
		}
	}
	return out
}

func suffix(on bool, word string) string {
	if on {
		return ", " + word
	}
	return ""
}

func greeting() form {
	f := form{name: "Greeting", head: 18, magic: 16, zero: api.Greeting{},
		encode: func(m any) ([]byte, api.Errno) { return wire.EncodeGreeting(m.(api.Greeting)), api.OK },
		decode: func(b []byte, _ uint32) (any, int, api.Errno) { return three(wire.DecodeGreeting(b)) },
	}
	for _, v := range []uint16{0, 1, 3, 0x1234, 0xffff} {
		f.samples = append(f.samples, sample{api.Greeting{Flags: v}, lay("NBDMAGIC", "IHAVEOPT", v)})
	}
	return f
}

func flags() form {
	f := form{name: "Flags", head: 4, zero: uint32(0),
		encode: func(m any) ([]byte, api.Errno) { return wire.EncodeFlags(m.(uint32)), api.OK },
		decode: func(b []byte, _ uint32) (any, int, api.Errno) { return three(wire.DecodeFlags(b)) },
	}
	for _, v := range []uint32{0, 1, 3, 0x12345678, max32} {
		f.samples = append(f.samples, sample{v, lay(v)})
	}
	return f
}

// lengths of Data that the samples have.
func lengths() []int { return []int{0, 1, 2, 3, 255, 256, 511, 70000} }

func option() form {
	f := form{name: "Option", head: 16, magic: 8, zero: api.Option{},
		encode: func(m any) ([]byte, api.Errno) { return wire.EncodeOption(m.(api.Option)) },
		decode: func(b []byte, most uint32) (any, int, api.Errno) { return three(wire.DecodeOption(b, most)) },
		bare: func(m any) any {
			o := m.(api.Option)
			return api.Option{Code: o.Code, Len: o.Len, Long: true}
		},
	}
	for i, n := range lengths() {
		code := []uint32{0, 3, 0x12345678, max32}[i%4]
		f.samples = append(f.samples, sample{api.Option{Code: code, Len: uint32(n), Data: many(n)}, lay("IHAVEOPT", code, uint32(n), many(n))})
	}
	return f
}

func optionReply() form {
	f := form{name: "Reply", head: 20, magic: 8, zero: api.OptionReply{},
		encode: func(m any) ([]byte, api.Errno) { return wire.EncodeReply(m.(api.OptionReply)), api.OK },
		decode: func(b []byte, most uint32) (any, int, api.Errno) { return three(wire.DecodeReply(b, most)) },
		bare: func(m any) any {
			r := m.(api.OptionReply)
			return api.OptionReply{Option: r.Option, Kind: r.Kind}
		},
	}
	for i, n := range lengths() {
		code := []uint32{0, 3, 0x12345678, max32}[i%4]
		kind := []uint32{1, 0x80000001, 0x9abcdef0}[i%3]
		f.samples = append(f.samples, sample{api.OptionReply{Option: code, Kind: kind, Data: many(n)}, lay(uint64(0x0003e889045565a9), code, kind, uint32(n), many(n))})
	}
	return f
}

func export(zeroes bool) form {
	f := form{name: "Export" + suffix(zeroes, "with zeroes"), head: 10, zero: api.ExportReply{},
		encode: func(m any) ([]byte, api.Errno) { return wire.EncodeExport(m.(api.ExportReply), zeroes), api.OK },
		decode: func(b []byte, _ uint32) (any, int, api.Errno) { return three(wire.DecodeExport(b, zeroes)) },
	}
	var tail []byte
	if zeroes {
		f.head, tail = 134, make([]byte, 124)
	}
	for _, e := range []api.ExportReply{{}, {Size: 512, Flags: 1}, {Size: 0x0123456789abcdef, Flags: 0x1234}, {Size: max64, Flags: 0xffff}} {
		f.samples = append(f.samples, sample{e, lay(e.Size, e.Flags, tail)})
	}
	return f
}

func request(extended bool) form {
	f := form{name: "Request" + suffix(extended, "extended"), head: 28, magic: 4, zero: api.Request{},
		encode: func(m any) ([]byte, api.Errno) { return wire.EncodeRequest(m.(api.Request), extended) },
		decode: func(b []byte, most uint32) (any, int, api.Errno) { return three(wire.DecodeRequest(b, most, extended)) },
		bare: func(m any) any {
			r := m.(api.Request)
			r.Data = nil
			return r
		},
	}
	if extended {
		f.head = 32
	}
	for _, r := range append(paid(extended), unpaid(extended)...) {
		f.samples = append(f.samples, sample{r, requestBytes(r, extended)})
	}
	return f
}

// commands are types of requests, those that are none of the protocol too.
func commands() []uint16 { return []uint16{0, 1, 2, 3, 4, 5, 6, 7, 8, 257, 0x1234, 0xffff} }

// paid are requests with a payload.
func paid(extended bool) []api.Request {
	var out []api.Request
	for i, n := range lengths() {
		r := api.Request{Flags: []uint16{0, 1, 0xffdf}[i%3], Type: api.CmdWrite, Cookie: 0x1122334455667788 * uint64(i), Offset: max64 - uint64(i), Length: uint64(n), Data: many(n)}
		if extended {
			r.Flags, r.Type = r.Flags|api.FlagPayload, commands()[i]
		}
		out = append(out, r)
	}
	for _, c := range commands() {
		if extended {
			out = append(out, api.Request{Flags: api.FlagPayload, Type: c, Cookie: max64, Offset: 512, Length: 3, Data: many(3)})
		}
	}
	return out
}

// unpaid are requests without one, whose lengths no most bounds.
func unpaid(extended bool) []api.Request {
	var out []api.Request
	for i, c := range commands() {
		r := api.Request{Flags: []uint16{0, 1, 0x8000}[i%3], Type: c, Cookie: uint64(i), Offset: 0x0102030405060708, Length: []uint64{0, 1, 512, max32 - 1, max32}[i%5]}
		if extended {
			r.Flags = []uint16{0, 1, 0xffdf}[i%3]
			r.Length = []uint64{0, 1, 512, max32, max32 + 1, max64 - 1, max64}[i%7]
		} else {
			r.Flags |= api.FlagPayload // which says nothing there
		}
		if extended || c != api.CmdWrite {
			out = append(out, r)
		}
	}
	return out
}

func requestBytes(r api.Request, extended bool) []byte {
	if extended {
		return lay(uint32(0x21e41c71), r.Flags, r.Type, r.Cookie, r.Offset, r.Length, r.Data)
	}
	return lay(uint32(0x25609513), r.Flags, r.Type, r.Cookie, r.Offset, uint32(r.Length), r.Data)
}

func simple() form {
	f := form{name: "Simple", head: 16, magic: 4, zero: api.SimpleReply{},
		encode: func(m any) ([]byte, api.Errno) { return wire.EncodeSimple(m.(api.SimpleReply)), api.OK },
		decode: func(b []byte, _ uint32) (any, int, api.Errno) { return three(wire.DecodeSimple(b)) },
	}
	for _, r := range []api.SimpleReply{{}, {Code: 22, Cookie: 1}, {Code: 0x12345678, Cookie: 0x0123456789abcdef}, {Code: max32, Cookie: max64}} {
		f.samples = append(f.samples, sample{r, lay(uint32(0x67446698), r.Code, r.Cookie)})
	}
	return f
}

func chunk(extended bool) form {
	f := form{name: "Chunk" + suffix(extended, "extended"), head: 20, magic: 4, zero: api.Chunk{},
		encode: func(m any) ([]byte, api.Errno) { return wire.EncodeChunk(m.(api.Chunk), extended), api.OK },
		decode: func(b []byte, most uint32) (any, int, api.Errno) { return three(wire.DecodeChunk(b, most, extended)) },
		bare: func(m any) any {
			c := m.(api.Chunk)
			c.Data = nil
			return c
		},
	}
	if extended {
		f.head = 32
	}
	for i, n := range lengths() {
		c := api.Chunk{Flags: []uint16{0, 1, 0x1234, 0xffff}[i%4], Type: []uint16{0, 1, 5, 32769, 0xffff}[i%5], Cookie: 0x1122334455667788 * uint64(i), Data: many(n)}
		if extended {
			c.Off = max64 - uint64(i)*0x0123456789abcdef
		}
		f.samples = append(f.samples, sample{c, chunkBytes(c, extended)})
	}
	return f
}

func chunkBytes(c api.Chunk, extended bool) []byte {
	if extended {
		return lay(uint32(0x6e8a278c), c.Flags, c.Type, c.Cookie, c.Off, uint64(len(c.Data)), c.Data)
	}
	return lay(uint32(0x668e33ef), c.Flags, c.Type, c.Cookie, uint32(len(c.Data)), c.Data)
}

// three gives what a decoder answers in one shape for all kinds.
func three[T any](m T, n int, e api.Errno) (any, int, api.Errno) { return m, n, e }
