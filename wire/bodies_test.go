package wire_test

import (
	"spindle/api"
	"spindle/wire"
)

// A content is a kind of what stands in Data, its calls in one shape for all kinds. Those of bad may not be packed, for ErrForm, and those of none may not be unpacked, for ErrForm; plain is UnpackX as the chapter's table has it.
type content struct {
	name    string
	pack    func(v any) ([]byte, api.Errno)
	unpack  func(b []byte) (any, api.Errno)
	plain   func(b []byte) (any, api.Errno)
	zero    any
	samples []sample
	bad     []any
	none    [][]byte
}

// contents are all kinds, wide and not, placed and not.
func contents() []content {
	return []content{info(), infoRequest(), metaRequest(), meta(), serverItem(), status(false), status(true), errorBody(false), errorBody(true), dataBody(), hole()}
}

// two gives what an unpacker answers in one shape for all kinds.
func two[T any](v T, e api.Errno) (any, api.Errno) { return v, e }

func info() content {
	c := content{name: "Info", zero: api.Info{}, plain: plainInfo,
		pack:   func(v any) ([]byte, api.Errno) { return wire.PackInfo(v.(api.Info)) },
		unpack: func(b []byte) (any, api.Errno) { return two(wire.UnpackInfo(b)) },
		samples: []sample{
			{api.Info{}, lay(uint16(0), uint64(0), uint16(0))},
			{api.Info{Size: 0x0123456789abcdef, Flags: 0x1234}, lay(uint16(0), uint64(0x0123456789abcdef), uint16(0x1234))},
			{api.Info{Size: max64, Flags: 0xffff}, lay(uint16(0), uint64(max64), uint16(0xffff))},
			{api.Info{Kind: 3}, lay(uint16(3), uint32(0), uint32(0), uint32(0))},
			{api.Info{Kind: 3, Min: 1, Pref: 0x12345678, Max: max32}, lay(uint16(3), uint32(1), uint32(0x12345678), uint32(max32))},
		},
		none: [][]byte{lay(uint16(0)), lay(uint16(0), many(9)), lay(uint16(0), many(11)), lay(uint16(0), many(100)), lay(uint16(3)), lay(uint16(3), many(11)), lay(uint16(3), many(13)), lay(uint16(3), many(4))},
	}
	for _, s := range texts() {
		for _, kind := range []uint16{1, 2} {
			c.samples = append(c.samples, sample{api.Info{Kind: kind, Text: s}, lay(kind, s)})
		}
		for _, kind := range []uint16{4, 256, 0xffff} {
			c.samples = append(c.samples, sample{api.Info{Kind: kind, Data: []byte(s)}, lay(kind, s)})
		}
	}
	for _, s := range notTexts() {
		for _, kind := range []uint16{1, 2} {
			c.bad = append(c.bad, api.Info{Kind: kind, Text: s})
			c.none = append(c.none, lay(kind, s))
		}
		c.samples = append(c.samples, sample{api.Info{Kind: 4, Data: []byte(s)}, lay(uint16(4), s)})
	}
	c.bad = append(c.bad, strangeInfos()...)
	return c
}

// strangeInfos have, of each kind, each field that it does not use.
func strangeInfos() []any {
	var out []any
	for _, kind := range []uint16{0, 1, 2, 3, 4, 0xffff} {
		export, text, block, data := kind == 0, kind == 1 || kind == 2, kind == 3, kind > 3
		for _, i := range []api.Info{{Size: 1}, {Size: max64}, {Size: 1 << 32}, {Flags: 1}, {Flags: 0x8000}, {Size: 1, Flags: 1}} {
			if i.Kind = kind; !export {
				out = append(out, i)
			}
		}
		for _, i := range []api.Info{{Text: "a"}, {Text: "\x00"}, {Text: letters(5000)}} {
			if i.Kind = kind; !text {
				out = append(out, i)
			}
		}
		for _, i := range []api.Info{{Min: 1}, {Pref: 1}, {Max: 1}, {Min: 1, Pref: 2, Max: 3}, {Max: 1 << 31}} {
			if i.Kind = kind; !block {
				out = append(out, i)
			}
		}
		for _, i := range []api.Info{{Data: []byte{0}}, {Data: many(9)}} {
			if i.Kind = kind; !data {
				out = append(out, i)
			}
		}
	}
	return out
}

func infoRequest() content {
	c := content{name: "InfoRequest", zero: api.InfoRequest{}, plain: plainInfoRequest,
		pack:   func(v any) ([]byte, api.Errno) { return wire.PackInfoRequest(v.(api.InfoRequest)) },
		unpack: func(b []byte) (any, api.Errno) { return two(wire.UnpackInfoRequest(b)) },
		none: [][]byte{counted("a"), lay(counted("a"), []byte{0}), lay(counted("a"), uint16(1)), lay(counted("a"), uint16(1), []byte{0}), lay(counted("a"), uint16(1), uint16(1), []byte{0}),
			lay(counted("a"), uint16(0), uint16(1)), lay(counted("a"), uint16(2), uint16(1)), lay(counted(""), uint16(64), many(127)), lay(counted(""), uint16(64), many(129)), lay(counted(""), uint16(64))},
	}
	for _, s := range texts() {
		for _, n := range []int{0, 1, 2, api.MaxInfos - 1, api.MaxInfos} {
			r := api.InfoRequest{Name: s}
			b := lay(counted(s), uint16(n))
			for i := range n {
				kind := uint16(i*1021 + 7)
				r.Infos = append(r.Infos, kind)
				b = append(b, lay(kind)...)
			}
			c.samples = append(c.samples, sample{r, b})
		}
	}
	for _, s := range notTexts() {
		for _, n := range []int{0, 1, api.MaxInfos, api.MaxInfos + 1} {
			c.bad = append(c.bad, api.InfoRequest{Name: s, Infos: make([]uint16, n)})
			c.none = append(c.none, lay(counted(s), uint16(n), make([]byte, 2*n)))
		}
	}
	return c
}

func metaRequest() content {
	c := content{name: "MetaRequest", zero: api.MetaRequest{}, plain: plainMetaRequest,
		pack:   func(v any) ([]byte, api.Errno) { return wire.PackMetaRequest(v.(api.MetaRequest)) },
		unpack: func(b []byte) (any, api.Errno) { return two(wire.UnpackMetaRequest(b)) },
		none: [][]byte{counted("a"), lay(counted("a"), []byte{0, 0, 0}), lay(counted("a"), uint32(1)), lay(counted("a"), uint32(1), []byte{0, 0, 0}), lay(counted("a"), uint32(1), counted("b"), []byte{0}),
			lay(counted("a"), uint32(0), counted("b")), lay(counted("a"), uint32(2), counted("b")), lay(counted("a"), uint32(1), uint32(2), "b"), lay(counted("a"), uint32(1), uint32(max32), "b"), lay(counted(""), uint32(16))},
	}
	for i, s := range texts() {
		for _, n := range []int{0, 1, 2, api.MaxQueries - 1, api.MaxQueries} {
			r := api.MetaRequest{Name: s}
			b := lay(counted(s), uint32(n))
			for k := range n {
				query := texts()[(i+k)%len(texts())]
				r.Queries = append(r.Queries, query)
				b = append(b, counted(query)...)
			}
			c.samples = append(c.samples, sample{r, b})
		}
	}
	for _, s := range notTexts() {
		c.bad = append(c.bad, api.MetaRequest{Name: s}, api.MetaRequest{Name: s, Queries: make([]string, 17)}, api.MetaRequest{Queries: []string{s}}, api.MetaRequest{Queries: []string{"a", s}}, api.MetaRequest{Queries: []string{s, "a"}},
			api.MetaRequest{Queries: append(make([]string, 15), s)}, api.MetaRequest{Queries: append(make([]string, 16), s)}, api.MetaRequest{Queries: append([]string{s}, make([]string, 16)...)})
		c.none = append(c.none, lay(counted(s), uint32(0)), lay(counted(s), uint32(17)), lay(counted(s), uint32(max32)), lay(counted("a"), uint32(1), counted(s)), lay(counted("a"), uint32(2), counted("a"), counted(s)), lay(counted("a"), uint32(2), counted(s), counted("a")))
	}
	return c
}

func meta() content {
	c := content{name: "Meta", zero: api.Meta{}, plain: plainMeta,
		pack:   func(v any) ([]byte, api.Errno) { return wire.PackMeta(v.(api.Meta)) },
		unpack: func(b []byte) (any, api.Errno) { return two(wire.UnpackMeta(b)) },
	}
	for _, s := range texts() {
		for _, id := range []uint32{0, 1, 0x12345678, max32} {
			c.samples = append(c.samples, sample{api.Meta{ID: id, Name: s}, lay(id, s)})
		}
	}
	for _, s := range notTexts() {
		c.bad = append(c.bad, api.Meta{ID: 1, Name: s})
		c.none = append(c.none, lay(uint32(1), s))
	}
	return c
}

func serverItem() content {
	c := content{name: "Server", zero: api.ServerItem{}, plain: plainServer,
		pack:   func(v any) ([]byte, api.Errno) { return wire.PackServer(v.(api.ServerItem)) },
		unpack: func(b []byte) (any, api.Errno) { return two(wire.UnpackServer(b)) },
		none:   [][]byte{lay(uint32(1)), lay(uint32(2), "a"), lay(uint32(max32), "a"), lay(uint32(1<<31), "a"), lay(uint32(4097), many(4097))},
	}
	for _, s := range texts() {
		for _, rest := range [][]byte{nil, {0}, {0xff, 0}, many(9), many(70000)} {
			c.samples = append(c.samples, sample{api.ServerItem{Name: s, Rest: rest}, lay(counted(s), rest)})
		}
	}
	for _, s := range notTexts() {
		c.bad = append(c.bad, api.ServerItem{Name: s}, api.ServerItem{Name: s, Rest: many(9)})
		c.none = append(c.none, counted(s), lay(counted(s), many(9)))
	}
	return c
}

// run lays a run of a status down.
func run(r api.StatusRun, wide bool) []byte {
	if wide {
		return lay(r.Len, r.Flags)
	}
	return lay(uint32(r.Len), uint32(r.Flags))
}

func status(wide bool) content {
	c := content{name: "Status" + suffix(wide, "wide"), zero: api.StatusBody{}, plain: plainStatus(wide),
		pack:   func(v any) ([]byte, api.Errno) { return wire.PackStatus(v.(api.StatusBody), wide) },
		unpack: func(b []byte) (any, api.Errno) { return two(wire.UnpackStatus(b, wide)) },
		bad:    []any{api.StatusBody{}, api.StatusBody{Context: 1, Runs: []api.StatusRun{}}, api.StatusBody{Context: max32}},
	}
	for _, n := range []int{1, 2, 3, 256, 1000} {
		for _, context := range []uint32{0, 1, 0x12345678, max32} {
			s := api.StatusBody{Context: context}
			b := lay(context)
			if wide {
				b = lay(b, uint32(n))
			}
			for i := range n {
				r := []api.StatusRun{{}, {Len: 512, Flags: 3}, {Len: max32, Flags: max32}, {Len: max32 - 1, Flags: 0}, {Len: 0, Flags: max32}, {Len: 0x01020304, Flags: 0x05060708}}[(i+n)%6]
				if wide && i%2 == 1 {
					r = []api.StatusRun{{Len: max32 + 1, Flags: 0}, {Len: 0, Flags: max32 + 1}, {Len: max64, Flags: max64}, {Len: 0x0102030405060708, Flags: 0x090a0b0c0d0e0f10}}[i/2%4]
				}
				s.Runs = append(s.Runs, r)
				b = append(b, run(r, wide)...)
			}
			c.samples = append(c.samples, sample{s, b})
		}
	}
	if !wide {
		for _, r := range []api.StatusRun{{Len: max32 + 1}, {Flags: max32 + 1}, {Len: max64}, {Flags: max64}, {Len: max32 + 1, Flags: max32 + 1}, {Len: 1, Flags: 1 << 63}, {Len: 1 << 63, Flags: 1}} {
			good := api.StatusRun{Len: 512}
			for _, runs := range [][]api.StatusRun{{r}, {good, r}, {r, good}, {good, good, r}} {
				c.bad = append(c.bad, api.StatusBody{Context: 1, Runs: runs})
			}
		}
		c.none = [][]byte{lay(uint32(1)), lay(uint32(1), many(1)), lay(uint32(1), many(4)), lay(uint32(1), many(7)), lay(uint32(1), many(9)), lay(uint32(1), many(12)), lay(uint32(1), many(15))}
		return c
	}
	c.none = [][]byte{lay(uint32(1)), lay(uint32(1), uint32(0)), lay(uint32(1), uint32(1)), lay(uint32(1), uint32(0), many(16)), lay(uint32(1), uint32(1), many(15)), lay(uint32(1), uint32(1), many(17)), lay(uint32(1), uint32(1), many(8)),
		lay(uint32(1), uint32(1), many(32)), lay(uint32(1), uint32(2), many(16)), lay(uint32(1), uint32(3), many(32)), lay(uint32(1), uint32(max32), many(16)), lay(uint32(1), uint32(1<<28+1), many(16)), lay(uint32(1), uint32(1<<31), many(160))}
	return c
}

func errorBody(placed bool) content {
	c := content{name: "Error" + suffix(placed, "placed"), zero: api.ErrorBody{}, plain: plainError(placed),
		pack:   func(v any) ([]byte, api.Errno) { return wire.PackError(v.(api.ErrorBody)) },
		unpack: func(b []byte) (any, api.Errno) { return two(wire.UnpackError(b, placed)) },
	}
	tail := func(at uint64) []byte {
		if placed {
			return lay(at)
		}
		return nil
	}
	for i, s := range texts() {
		code := []uint32{0, 22, 0x12345678, max32}[i%4]
		at := []uint64{0, 512, 0x0123456789abcdef, 1 << 63, max64}[i%5]
		if !placed {
			at = 0
		}
		c.samples = append(c.samples, sample{api.ErrorBody{Code: code, Text: s, Placed: placed, At: at}, lay(code, uint16(len(s)), s, tail(at))})
	}
	for _, s := range notTexts() {
		c.bad = append(c.bad, api.ErrorBody{Code: 22, Text: s, Placed: placed})
		if len(s) < 65536 {
			c.none = append(c.none, lay(uint32(22), uint16(len(s)), s, tail(9)))
		}
	}
	if !placed {
		for _, at := range []uint64{1, 512, 1 << 32, max64} {
			c.bad = append(c.bad, api.ErrorBody{Code: 22, At: at}, api.ErrorBody{Code: 22, Text: "no", At: at})
		}
	}
	for _, said := range []int{0, 1, 3, 10, 256, 65535} {
		c.none = append(c.none, lay(uint32(22), uint16(said), "no", tail(0)))
	}
	c.none = append(c.none, lay(uint32(22)), lay(uint32(22), []byte{0}), lay(uint32(22), uint16(2), "no", tail(7), []byte{0}), lay(uint32(22), uint16(2), "no", many(7)), lay(uint32(22), uint16(2), "no", many(9)), lay(uint32(22), uint16(65535), many(65535)))
	return c
}

func dataBody() content {
	c := content{name: "Data", zero: api.DataBody{}, plain: plainData,
		pack:   func(v any) ([]byte, api.Errno) { return wire.PackData(v.(api.DataBody)) },
		unpack: func(b []byte) (any, api.Errno) { return two(wire.UnpackData(b)) },
		bad:    []any{api.DataBody{}, api.DataBody{Off: 512}, api.DataBody{Off: max64, Data: []byte{}}},
		none:   [][]byte{many(7), many(8), make([]byte, 8)},
	}
	for _, n := range []int{1, 2, 512, 70000} {
		for _, off := range []uint64{0, 512, 0x0123456789abcdef, max64} {
			c.samples = append(c.samples, sample{api.DataBody{Off: off, Data: many(n)}, lay(off, many(n))})
		}
	}
	return c
}

func hole() content {
	c := content{name: "Hole", zero: api.HoleBody{}, plain: plainHole,
		pack:   func(v any) ([]byte, api.Errno) { return wire.PackHole(v.(api.HoleBody)), api.OK },
		unpack: func(b []byte) (any, api.Errno) { return two(wire.UnpackHole(b)) },
		none:   [][]byte{many(8), many(11), many(13), many(24)},
	}
	for _, h := range []api.HoleBody{{}, {Off: 512, Len: 1}, {Off: 0x0123456789abcdef, Len: 0x12345678}, {Off: max64, Len: max32}} {
		c.samples = append(c.samples, sample{h, lay(h.Off, h.Len)})
	}
	return c
}
