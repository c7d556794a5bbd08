package client_test

import (
	"fmt"
	"slices"
	"strings"
	"testing"

	"spindle/api"
	"spindle/client"
)

// P16.2: the flags that may be said are those of the greeting, some or all; every other bit is refused, and nothing changes.
func TestFlags(t *testing.T) {
	list := []uint32{0, 1, 2, 3, 4, 5, 7, 0x10001, 0x10000, 0x80000000, max32}
	for bit := range 32 {
		list = append(list, 1<<bit, 1<<bit|1)
	}
	for _, offered := range []uint16{1, 3} {
		for _, f := range list {
			what := fmt.Sprintf("Flags %#x of %d", f, offered)
			c := greeted(t, offered)
			b, e := c.Flags(f)
			if f|uint32(offered) == uint32(offered) {
				want(t, what, e, api.OK)
				wantBytes(t, what, b, lay(f))
				want(t, what+": Phase", c.Phase(), api.ClientOptions)
				_, e = c.Flags(f)
				want(t, what+", a second time", e, api.ErrAsk)
				continue
			}
			want(t, what, e, api.ErrFlags)
			wantBytes(t, what, b, nil)
			want(t, what+": Phase", c.Phase(), api.ClientGreeting)
			b, e = c.Flags(1)
			want(t, what+", then 1", e, api.OK)
			wantBytes(t, what+", then 1", b, []byte{0, 0, 0, 1})
		}
	}
}

// P16.2: ahead of the greeting, and of a half one, no flags may be said, whatever they are.
func TestFlagsAheadOfTheGreeting(t *testing.T) {
	for n := range 18 {
		c := fresh(t)
		c.In(greetingBytes(3)[:n])
		for _, f := range []uint32{0, 3, 8} {
			b, e := c.Flags(f)
			want(t, "Flags", e, api.ErrAsk)
			wantBytes(t, "Flags", b, nil)
		}
		wantEvents(t, "the rest", c.In(greetingBytes(3)[n:]), api.Event{Kind: api.EvGreeting, Flags: 3})
	}
}

// P16.3: any option may be asked, with any data of at most MaxOption bytes.
func TestOption(t *testing.T) {
	for _, code := range []uint32{0, 1, 2, 3, 4, 5, 6, 7, 8, 9, 10, 11, 12, 77, max32} {
		for _, n := range []int{0, 1, 100, api.MaxOption - 1, api.MaxOption} {
			what := fmt.Sprintf("option %d, %d bytes", code, n)
			c := haggling(t, 3)
			b, e := c.Option(code, many(n))
			want(t, what, e, api.OK)
			wantBytes(t, what, b, optionBytes(code, many(n)...))
			want(t, what+": Phase", c.Phase(), api.ClientOptions)
			_, e = c.Option(code, nil)
			want(t, what+", again", e, api.ErrAsk)
		}
	}
}

// P16.3: data that are too long; nothing is outstanding then. What may not be asked is told first.
func TestOptionTooLong(t *testing.T) {
	for _, n := range []int{api.MaxOption + 1, api.MaxOption + 2, 3 * api.MaxOption} {
		c := haggling(t, 3)
		b, e := c.Option(77, many(n))
		want(t, "too long", e, api.ErrLong)
		wantBytes(t, "too long", b, nil)
		mustAsk(t, c, 3)
		_, e = c.Option(3, many(n))
		want(t, "too long, with one outstanding", e, api.ErrAsk)
		c = haggling(t, 0)
		_, e = c.Option(3, many(n))
		want(t, "too long, of an old client", e, api.ErrAsk)
		_, e = c.Option(1, many(n))
		want(t, "EXPORT_NAME too long, of an old client", e, api.ErrLong)
		mustAsk(t, c, 1)
	}
}

// P16.3: of an old client nothing but EXPORT_NAME.
func TestOptionOfAnOldClient(t *testing.T) {
	for _, said := range []uint32{0, 2} {
		c := haggling(t, said)
		for _, code := range []uint32{0, 2, 3, 5, 6, 7, 8, 9, 10, 11, 77, 257, max32} {
			_, e := c.Option(code, nil)
			want(t, fmt.Sprint("option ", code), e, api.ErrAsk)
		}
		b, e := c.Option(1, []byte("name"))
		want(t, "EXPORT_NAME", e, api.OK)
		wantBytes(t, "EXPORT_NAME", b, optionBytes(1, []byte("name")...))
	}
}

// P16.4: Info and Meta ask their options, with what they are handed.
func TestInfoAndMeta(t *testing.T) {
	long := strings.Repeat("n", 4096)
	for _, name := range []string{"", "a", "für sich", long} {
		for _, kinds := range [][]uint16{nil, {0}, {3, 1, 3, 77, max16}, make([]uint16, 64)} {
			for start, code := range map[bool]uint32{true: 7, false: 6} {
				b, e := haggling(t, 3).Info(start, api.InfoRequest{Name: name, Infos: kinds})
				want(t, "Info", e, api.OK)
				wantBytes(t, "Info", b, optionBytes(code, infoData(name, kinds...)...))
			}
		}
		for _, queries := range [][]string{nil, {""}, {"base:allocation", "x", "ü"}, make([]string, 16), {long, long}} {
			for set, code := range map[bool]uint32{true: 10, false: 9} {
				b, e := haggling(t, 3).Meta(set, api.MetaRequest{Name: name, Queries: queries})
				want(t, "Meta", e, api.OK)
				wantBytes(t, "Meta", b, optionBytes(code, metaData(name, queries...)...))
			}
		}
	}
}

// wrongInfos and wrongMetas are requests that the wire refuses, and with which error.
func wrongInfos() map[api.Errno][]api.InfoRequest {
	return map[api.Errno][]api.InfoRequest{
		api.ErrForm: {{Name: "\xff"}, {Name: "a\x00"}, {Name: strings.Repeat("n", 4097)}, {Name: "\xff", Infos: make([]uint16, 65)}},
		api.ErrMany: {{Infos: make([]uint16, 65)}, {Name: "a", Infos: make([]uint16, 1000)}},
	}
}

func wrongMetas() map[api.Errno][]api.MetaRequest {
	return map[api.Errno][]api.MetaRequest{
		api.ErrForm: {{Name: "\xff"}, {Name: "a", Queries: []string{"x", "\x00"}}, {Queries: []string{strings.Repeat("n", 4097)}}},
		api.ErrMany: {{Queries: make([]string, 17)}, {Name: "a", Queries: make([]string, 300)}},
	}
}

// P16.4: what the wire refuses is told in every phase, ahead of what may not be asked; nothing changes.
func TestInfoAndMetaRefused(t *testing.T) {
	for _, p := range places() {
		c := p.make(t)
		for e, list := range wrongInfos() {
			for _, r := range list {
				for _, start := range []bool{false, true} {
					b, f := c.Info(start, r)
					want(t, p.name+": Info", f, e)
					wantBytes(t, p.name+": Info", b, nil)
				}
			}
		}
		for e, list := range wrongMetas() {
			for _, r := range list {
				for _, set := range []bool{false, true} {
					b, f := c.Meta(set, r)
					want(t, p.name+": Meta", f, e)
					wantBytes(t, p.name+": Meta", b, nil)
				}
			}
		}
		want(t, p.name+": Phase", c.Phase(), p.phase)
		_, e := c.Option(3, nil)
		want(t, p.name+": LIST", e == api.OK, slices.Contains(p.may, "LIST"))
	}
}

// P16.4: a MetaRequest that the wire takes can be longer than an option may be.
func TestMetaTooLong(t *testing.T) {
	queries := make([]string, 16)
	for i := range queries {
		queries[i] = strings.Repeat("q", 4096)
	}
	// 4 and the empty name, 4, of each query 4 and itself: 72 bytes too many
	c := haggling(t, 3)
	r := api.MetaRequest{Queries: queries}
	for _, cut := range []int{0, 71, 72} {
		r.Queries[3] = strings.Repeat("q", 4096-cut)
		b, e := c.Meta(true, r)
		if cut < 72 {
			want(t, "too long", e, api.ErrLong)
			wantBytes(t, "too long", b, nil)
			continue
		}
		want(t, "as long as may be", e, api.OK)
		wantBytes(t, "as long as may be", b, optionBytes(10, metaData("", r.Queries...)...))
		want(t, "as long as may be", len(b), 16+api.MaxOption)
	}
}

// P16.5: every command, in every form, with the client's own cookie; what r says of one is looked at by nobody.
func TestRequest(t *testing.T) {
	for _, f := range forms() {
		c := working(t, f)
		var left []api.Outstanding
		cookie := uint64(0)
		for _, kind := range []uint16{0, 1, 3, 4, 5, 6, 7, 8, 9, 257, max16} {
			for i, q := range []api.Request{asking(kind, 0, 0), asking(kind, 4096, 1), asking(kind, max64, 100, 1, 2, 4, 8, 16, 64)} {
				what := fmt.Sprintf("%s: command %d, %d", f.name, kind, i)
				cookie++
				q.Cookie = []uint64{0, cookie - 1, max64}[i]
				if kind == api.CmdWrite {
					q.Data = many(int(q.Length))
				}
				b, n, e := c.Request(q)
				want(t, what, e, api.OK)
				want(t, what+": the cookie", n, cookie)
				left = append(left, outstanding(cookie, q))
				q.Cookie = cookie
				if f.extended && kind == api.CmdWrite {
					q.Flags |= api.FlagPayload
				}
				wantBytes(t, what, b, requestBytes(q, f.extended))
				want(t, what+": Phase", c.Phase(), api.ClientWork)
				wantOutstanding(t, what, c, left...)
			}
		}
	}
}

// P16.5: how long a request may be, by its command; ErrLong comes ahead of what the wire says.
func TestRequestLengths(t *testing.T) {
	for _, f := range forms() {
		for kind := range uint16(9) {
			for _, n := range []uint64{api.MaxPayload - 1, api.MaxPayload, api.MaxPayload + 1, max32, max32 + 1, max64} {
				what := fmt.Sprintf("%s: command %d, Length %d", f.name, kind, n)
				q := asking(kind, 3, n)
				wanted := api.OK
				switch {
				case kind <= 1 && n > api.MaxPayload:
					wanted = api.ErrLong
				case n > max32 && !f.extended:
					wanted = api.ErrForm
				case kind == 1:
					q.Data = many(int(n))
				}
				wantRequest(t, what, f, q, wanted)
			}
		}
	}
}

// wantRequest asks a request of a new client in the transmission. If it is refused nothing changes, and it takes no cookie.
func wantRequest(t *testing.T, what string, f form, q api.Request, wanted api.Errno) {
	t.Helper()
	c := working(t, f)
	b, cookie, e := c.Request(q)
	want(t, what, e, wanted)
	if wanted == api.OK {
		want(t, what+": the cookie", cookie, 1)
		if f.extended && q.Type == api.CmdWrite {
			q.Flags |= api.FlagPayload
		}
		q.Cookie = 1
		wantBytes(t, what, b, requestBytes(q, f.extended))
		return
	}
	want(t, what+": the cookie", cookie, 0)
	wantBytes(t, what, b, nil)
	want(t, what+": Phase", c.Phase(), api.ClientWork)
	wantOutstanding(t, what, c)
	want(t, what+", then another", mustRequest(t, c, read(0, 1)), 1)
}

// P16.5: data where there are none, or not as many as Length says.
func TestRequestData(t *testing.T) {
	for _, f := range forms() {
		for kind := range uint16(9) {
			for _, flags := range []uint16{0, api.FlagPayload, api.FlagPayload | api.FlagFua} {
				for _, length := range []uint64{0, 1, 5} {
					for _, n := range []int{0, 1, 4, 5, 6} {
						what := fmt.Sprintf("%s: command %d, flags %d, Length %d, %d bytes", f.name, kind, flags, length, n)
						q := asking(kind, 9, length, flags)
						q.Data = many(n)
						paid := kind == 1 || f.extended && flags != 0
						wanted := api.OK
						if paid && uint64(n) != length || !paid && n > 0 {
							wanted = api.ErrForm
						}
						if kind == api.CmdDisc && wanted == api.OK {
							continue
						}
						wantRequest(t, what, f, q, wanted)
					}
				}
			}
		}
	}
}

// P16.5: a payload of the greatest length, of an extended request that is no write of any length.
func TestRequestPayloads(t *testing.T) {
	wantRequest(t, "a write", plainly, write(0, many(api.MaxPayload)), api.OK)
	wantRequest(t, "a write", extended, write(0, many(api.MaxPayload)), api.OK)
	wantRequest(t, "too long a write", plainly, write(0, many(api.MaxPayload+1)), api.ErrLong)
	wantRequest(t, "too long a write", extended, write(0, many(api.MaxPayload+1)), api.ErrLong)
	q := asking(api.CmdTrim, 0, api.MaxPayload+9, api.FlagPayload)
	q.Data = many(api.MaxPayload + 9)
	wantRequest(t, "a trim with a payload", extended, q, api.OK)
	q.Type = api.CmdRead
	wantRequest(t, "a read with too long a payload", extended, q, api.ErrLong)
}

// P16.5: DISC: nothing is outstanding by it, what was asked stays so, and nothing more may be asked.
func TestDisc(t *testing.T) {
	for _, f := range forms() {
		for n := range 3 {
			for _, q := range []api.Request{disc(), asking(api.CmdDisc, 77, 5, 1, 64)} {
				c := working(t, f)
				var left []api.Outstanding
				for i := range n {
					left = append(left, outstanding(mustRequest(t, c, read(0, uint64(i))), read(0, uint64(i))))
				}
				q.Cookie = 99
				b, cookie, e := c.Request(q)
				want(t, "DISC", e, api.OK)
				want(t, "the cookie", cookie, uint64(n)+1)
				q.Cookie = cookie
				wantBytes(t, "DISC", b, requestBytes(q, f.extended))
				want(t, "Phase", c.Phase(), api.ClientClosing)
				wantOutstanding(t, "DISC", c, left...)
				wantRefusals(t, "behind DISC", c, api.ErrAsk)
				wantOutstanding(t, "behind DISC", c, left...)
			}
		}
	}
	c := working(t, plainly)
	q := disc()
	q.Data = []byte("x")
	_, _, e := c.Request(q)
	want(t, "DISC with data", e, api.ErrForm)
	want(t, "Phase", c.Phase(), api.ClientWork)
	want(t, "the next cookie", mustRequest(t, c, disc()), 1)
}

// P16.5: cookies go on, whatever is refused and answered in between.
func TestCookies(t *testing.T) {
	c := working(t, plainly)
	for i := uint64(1); i < 300; i++ {
		if i%3 == 0 {
			c.Request(asking(api.CmdRead, 0, api.MaxPayload+1))
			c.Request(asking(api.CmdWrite, 0, 5))
			c.Option(3, nil)
		}
		want(t, "the cookie", mustRequest(t, c, api.Request{Type: api.CmdFlush, Cookie: 7}), i)
		if i%2 == 0 {
			wantEvents(t, "an answer", c.In(simpleBytes(0, i)), done(i, 0))
		}
	}
	want(t, "outstanding", len(listed(c)), 150)
}

// R1: a client that no call made, nil or zero: ErrNil ahead of all, and zeros besides; it hears nothing, and nothing changes it.
func TestNoClient(t *testing.T) {
	var zero client.Client
	for name, c := range map[string]*client.Client{"nil": nil, "zero": &zero} {
		for range 2 {
			wantRefusals(t, name, c, api.ErrNil)
			for _, f := range []uint32{0, 1, 8, max32} {
				_, e := c.Flags(f)
				want(t, name+": Flags", e, api.ErrNil)
			}
			_, e := c.Option(3, many(api.MaxOption+1))
			want(t, name+": Option", e, api.ErrNil)
			for _, list := range wrongInfos() {
				_, e := c.Info(true, list[0])
				want(t, name+": Info", e, api.ErrNil)
			}
			for _, list := range wrongMetas() {
				_, e := c.Meta(true, list[0])
				want(t, name+": Meta", e, api.ErrNil)
			}
			for _, q := range []api.Request{read(0, max64), write(0, many(api.MaxPayload+1)), {Type: 9, Data: many(5)}} {
				b, cookie, e := c.Request(q)
				want(t, name+": Request", e, api.ErrNil)
				want(t, name+": Request", cookie, 0)
				wantBytes(t, name+": Request", b, nil)
			}
			for _, b := range [][]byte{nil, {0}, greetingBytes(3), simpleBytes(0, 1), many(5000000)} {
				wantEvents(t, name+": In", c.In(b))
			}
			want(t, name+": Phase", c.Phase(), 0)
			wantOutstanding(t, name, c)
		}
	}
}
