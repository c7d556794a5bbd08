package frame_test

import (
	"spindle/api"
	"spindle/frame"
)

// A sample is a message and, laid down by hand, its bytes.
type sample struct {
	message any
	bytes   []byte
}

// A kind is one of an inbox's cuts with one kind of message: how many bytes the head has, how many of these are magics (from the first on), which of them must be there before another magic is seen, and the cut in one shape for all. Measured: the messages tell a length, which is held against most.
type kind struct {
	name     string
	head     int
	magic    int
	seen     int
	measured bool
	cut      func(x *frame.Inbox, most uint32) (any, api.Cut)
	zero     any
	samples  []sample
}

// kinds are all of them but for Data, plain and extended, with zeroes and without.
func kinds() []kind {
	return []kind{greeting(), flags(), option(), optionReply(), export(false), export(true), request(false), request(true), simple(), chunk(false), chunk(true)}
}

func suffix(on bool, word string) string {
	if on {
		return ", " + word
	}
	return ""
}

func two[T any](m T, c api.Cut) (any, api.Cut) { return m, c }

// lengths of Data that the samples have.
func lengths() []int { return []int{0, 1, 2, 3, 255, 256, 513} }

func greeting() kind {
	k := kind{name: "Greeting", head: 18, magic: 16, seen: 18, zero: api.Greeting{},
		cut: func(x *frame.Inbox, _ uint32) (any, api.Cut) { return two(x.Greeting()) },
	}
	for _, v := range []uint16{0, 3, 0x1234, 0xffff} {
		k.samples = append(k.samples, sample{api.Greeting{Flags: v}, lay("NBDMAGIC", "IHAVEOPT", v)})
	}
	return k
}

func flags() kind {
	k := kind{name: "Flags", head: 4, zero: uint32(0),
		cut: func(x *frame.Inbox, _ uint32) (any, api.Cut) { return two(x.Flags()) },
	}
	for _, v := range []uint32{0, 3, 0x12345678, max32} {
		k.samples = append(k.samples, sample{v, lay(v)})
	}
	return k
}

func optionBytes(code, length uint32, data []byte) []byte {
	return lay("IHAVEOPT", code, length, data)
}

func option() kind {
	k := kind{name: "Option", head: 16, magic: 8, seen: 16, measured: true, zero: api.Option{},
		cut: func(x *frame.Inbox, most uint32) (any, api.Cut) { return two(x.Option(most)) },
	}
	for i, n := range lengths() {
		code := []uint32{0, 3, 0x12345678, max32}[i%4]
		k.samples = append(k.samples, sample{api.Option{Code: code, Len: uint32(n), Data: many(n)}, optionBytes(code, uint32(n), many(n))})
	}
	return k
}

func optionReply() kind {
	k := kind{name: "OptionReply", head: 20, magic: 8, seen: 20, measured: true, zero: api.OptionReply{},
		cut: func(x *frame.Inbox, most uint32) (any, api.Cut) { return two(x.OptionReply(most)) },
	}
	for i, n := range lengths() {
		code := []uint32{0, 3, 0x12345678, max32}[i%4]
		kind := []uint32{1, 0x80000001, 0x9abcdef0}[i%3]
		k.samples = append(k.samples, sample{api.OptionReply{Option: code, Kind: kind, Data: many(n)}, lay(uint64(0x0003e889045565a9), code, kind, uint32(n), many(n))})
	}
	return k
}

func export(zeroes bool) kind {
	k := kind{name: "ExportReply" + suffix(zeroes, "with zeroes"), head: 10, zero: api.ExportReply{},
		cut: func(x *frame.Inbox, _ uint32) (any, api.Cut) { return two(x.ExportReply(zeroes)) },
	}
	var tail []byte
	if zeroes {
		k.head, tail = 134, make([]byte, 124)
	}
	for _, e := range []api.ExportReply{{}, {Size: 512, Flags: 1}, {Size: 0x0123456789abcdef, Flags: 0x1234}, {Size: max64, Flags: 0xffff}} {
		k.samples = append(k.samples, sample{e, lay(e.Size, e.Flags, tail)})
	}
	return k
}

// commands are types of requests, those that are none of the protocol too.
func commands() []uint16 { return []uint16{0, 1, 2, 3, 4, 5, 6, 7, 8, 257, 0xffff} }

func request(extended bool) kind {
	k := kind{name: "Request" + suffix(extended, "extended"), head: 28, magic: 4, seen: 28, measured: true, zero: api.Request{},
		cut: func(x *frame.Inbox, most uint32) (any, api.Cut) { return two(x.Request(most, extended)) },
	}
	if extended {
		k.head, k.seen = 32, 32
	}
	for i, n := range lengths() {
		r := api.Request{Flags: []uint16{0, 1, 0xffdf}[i%3], Type: api.CmdWrite, Cookie: 0x1122334455667788 * uint64(i), Offset: max64 - uint64(i), Length: uint64(n), Data: many(n)}
		if extended {
			r.Flags, r.Type = r.Flags|api.FlagPayload, commands()[i]
		}
		k.samples = append(k.samples, sample{r, requestBytes(r, extended)})
	}
	return k
}

// bare are requests without a payload, whose lengths no most bounds.
func bare(extended bool) []sample {
	var out []sample
	for i, c := range commands() {
		r := api.Request{Flags: []uint16{0, 1, 0xffdf}[i%3], Type: c, Cookie: uint64(i), Offset: 0x0102030405060708, Length: []uint64{0, 1, 512, max32 - 1, max32}[i%5]}
		if extended {
			r.Length = []uint64{0, 1, 512, max32, max32 + 1, max64}[i%6]
		} else {
			r.Flags |= api.FlagPayload // which says nothing there
		}
		if extended || c != api.CmdWrite {
			out = append(out, sample{r, requestBytes(r, extended)})
		}
	}
	return out
}

func requestBytes(r api.Request, extended bool) []byte {
	if extended {
		return lay(uint32(0x21e41c71), r.Flags, r.Type, r.Cookie, r.Offset, r.Length, r.Data)
	}
	return lay(uint32(0x25609513), r.Flags, r.Type, r.Cookie, r.Offset, uint32(r.Length), r.Data)
}

func simple() kind {
	k := kind{name: "Reply, simple", head: 16, magic: 4, seen: 4, zero: api.Reply{},
		cut: func(x *frame.Inbox, most uint32) (any, api.Cut) { return two(x.Reply(most, false)) },
	}
	for _, r := range []api.SimpleReply{{}, {Code: 22, Cookie: 1}, {Code: 0x12345678, Cookie: 0x0123456789abcdef}, {Code: max32, Cookie: max64}} {
		k.samples = append(k.samples, sample{api.Reply{Simple: r}, lay(uint32(0x67446698), r.Code, r.Cookie)})
	}
	return k
}

func chunk(extended bool) kind {
	k := kind{name: "Reply, a chunk" + suffix(extended, "extended"), head: 20, magic: 4, seen: 4, measured: true, zero: api.Reply{},
		cut: func(x *frame.Inbox, most uint32) (any, api.Cut) { return two(x.Reply(most, extended)) },
	}
	if extended {
		k.head = 32
	}
	for i, n := range lengths() {
		c := api.Chunk{Flags: uint16(i), Type: []uint16{0, 1, 32769}[i%3], Cookie: 0x1122334455667788 * uint64(i), Data: many(n)}
		if extended {
			c.Off = max64 - uint64(i)
		}
		k.samples = append(k.samples, sample{api.Reply{Structured: true, Chunk: c}, chunkBytes(c, extended)})
	}
	return k
}

func chunkBytes(c api.Chunk, extended bool) []byte {
	if extended {
		return lay(uint32(0x6e8a278c), c.Flags, c.Type, c.Cookie, c.Off, uint64(len(c.Data)), c.Data)
	}
	return lay(uint32(0x668e33ef), c.Flags, c.Type, c.Cookie, uint32(len(c.Data)), c.Data)
}
