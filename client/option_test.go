package client_test

import (
	"fmt"
	"slices"
	"strings"
	"testing"

	"spindle/api"
	"spindle/client"
)

// P16.6: every greeting of 65536: those with HandFixed and no bit beside HandNoZeroes are heard, all others break it.
func TestGreetings(t *testing.T) {
	for f := range 1 << 16 {
		c := fresh(t)
		heard := c.In(greetingBytes(uint16(f)))
		wanted := api.Event{Kind: api.EvGreeting, Flags: uint32(f)}
		if f != 1 && f != 3 {
			wanted = api.Event{Kind: api.EvBroken}
		}
		wantEvents(t, fmt.Sprint("flags ", f), heard, wanted)
		want(t, fmt.Sprint("flags ", f), c.Phase() == api.ClientBroken, f != 1 && f != 3)
	}
}

// P16.6: another magic in the greeting.
func TestGreetingMagic(t *testing.T) {
	for i := range 16 {
		for _, change := range []byte{1, 0x20, 0x80, 0xff} {
			b := greetingBytes(3)
			b[i] ^= change
			wantBreak(t, fmt.Sprint("byte ", i), fresh(t), b)
		}
	}
	wantBreak(t, "the magics the other way round", fresh(t), lay("IHAVEOPT", "NBDMAGIC", uint16(3)))
	wantBreak(t, "zeros", fresh(t), make([]byte, 18))
}

// outstandingOf gives a client with an option outstanding.
func outstandingOf(t *testing.T, code uint32) *client.Client {
	t.Helper()
	c := haggling(t, 3)
	mustAsk(t, c, code)
	return c
}

// kinds are kinds of answers, with data that may be theirs.
func kinds() map[uint32][]byte {
	list := map[uint32][]byte{
		0: nil, 1: nil, 2: serverBody("a"), 3: exportBody(4096, 1), 4: metaBody(1, "x"), 5: nil, 257: nil, 0x7fffffff: nil,
		0x80000000: nil, 0xffffffff: nil,
	}
	for k := range uint32(11) {
		list[0x80000001+k] = []byte("because")
	}
	return list
}

func codes() []uint32 { return []uint32{0, 2, 3, 4, 5, 6, 7, 8, 9, 10, 11, 12, 77, 0x80000001, max32} }

// P16.6: every kind of answer at every option, but for EXPORT_NAME.
func TestEveryKindAtEveryOption(t *testing.T) {
	for _, code := range codes() {
		for kind, data := range kinds() {
			what := fmt.Sprintf("kind %#x of option %d", kind, code)
			c := outstandingOf(t, code)
			b := replyBytes(code, kind, data...)
			informs := code == 6 || code == 7
			switch {
			case kind >= 1<<31:
				wantEvents(t, what, c.In(b), api.Event{Kind: api.EvRefused, Option: code, Code: kind})
				want(t, what+": Phase", c.Phase(), api.ClientOptions)
				mustAsk(t, c, 3)
			case kind == 1 && !informs:
				wantEvents(t, what, c.In(b), api.Event{Kind: api.EvAck, Option: code})
				if code == 2 {
					want(t, what+": Phase", c.Phase(), api.ClientClosing)
					break
				}
				want(t, what+": Phase", c.Phase(), api.ClientOptions)
				mustAsk(t, c, 3)
			case kind == 2 && code == 3:
				wantEvents(t, what, c.In(b), api.Event{Kind: api.EvExport, Option: 3, Text: "a"})
				wantStill(t, what, c)
			case kind == 3 && informs:
				wantEvents(t, what, c.In(b), api.Event{Kind: api.EvInfo, Option: code, Info: api.Info{Size: 4096, Flags: 1}})
				wantStill(t, what, c)
			case kind == 4 && (code == 9 || code == 10):
				wantEvents(t, what, c.In(b), api.Event{Kind: api.EvMeta, Option: code, Meta: api.Meta{ID: 1, Name: "x"}})
				wantStill(t, what, c)
			default:
				wantBreak(t, what, c, b)
			}
		}
	}
}

// wantStill looks that the option is outstanding still.
func wantStill(t *testing.T, what string, c *client.Client) {
	t.Helper()
	want(t, what+": Phase", c.Phase(), api.ClientOptions)
	_, e := c.Option(3, nil)
	want(t, what+": another option", e, api.ErrAsk)
}

// P16.6: an answer with another option's code, of every kind.
func TestAnotherOptionsAnswer(t *testing.T) {
	for _, code := range codes() {
		for kind, data := range kinds() {
			for _, other := range []uint32{1, 3, 7, 10, code + 1, code ^ 1<<31, code ^ 256} {
				if other != code {
					wantBreak(t, fmt.Sprintf("kind %#x of option %d at %d", kind, other, code), outstandingOf(t, code), replyBytes(other, kind, data...))
				}
			}
		}
	}
}

// P16.6: a wrong magic, and Data that are too long: these break it as soon as the head is there.
func TestRepliesThatAreNone(t *testing.T) {
	for _, code := range codes() {
		for i := range 8 {
			b := ackBytes(code)
			b[i] ^= 1
			wantBreak(t, "another magic", outstandingOf(t, code), b)
		}
		for _, n := range []uint32{api.MaxOption + 1, api.MaxOption + 2, 1 << 31, max32} {
			head := lay(uint64(0x0003e889045565a9), code, api.RepUnsup, n)
			c := outstandingOf(t, code)
			wantEvents(t, "no head", c.In(head[:19]))
			wantBreak(t, "too long", c, head[19:])
		}
	}
}

// P16.6: Data of MaxOption bytes may be.
func TestTheLongestReplies(t *testing.T) {
	c := outstandingOf(t, 3)
	name := strings.Repeat("n", 4096)
	wantEvents(t, "a server", c.In(replyBytes(3, 2, serverBody(name, many(api.MaxOption-4100)...)...)), api.Event{Kind: api.EvExport, Option: 3, Text: name})
	wantEvents(t, "a refusal", c.In(replyBytes(3, api.RepTooBig, many(api.MaxOption)...)), api.Event{Kind: api.EvRefused, Option: 3, Code: api.RepTooBig})
	c = outstandingOf(t, 6)
	c.In(replyBytes(6, 3, exportBody(1, 1)...))
	data := many(api.MaxOption - 2)
	wantEvents(t, "an information", c.In(replyBytes(6, 3, lay(uint16(9), data)...)), api.Event{Kind: api.EvInfo, Option: 6, Info: api.Info{Kind: 9, Data: data}})
}

// P16.6: Data that cannot be unpacked.
func TestRepliesThatCannotBeUnpacked(t *testing.T) {
	long := strings.Repeat("n", 4097)
	for _, b := range [][]byte{nil, {0, 0, 0}, {0, 0, 0, 2, 'a'}, serverBody("a\x00"), serverBody("\xff"), serverBody(long), lay(uint32(max32), "a")} {
		wantBreak(t, "a server", outstandingOf(t, 3), replyBytes(3, 2, b...))
	}
	for _, code := range []uint32{6, 7} {
		for _, b := range [][]byte{nil, {0}, {0, 0}, exportBody(1, 1)[:11], lay(exportBody(1, 1), "x")} {
			wantBreak(t, "an export's information", outstandingOf(t, code), replyBytes(code, 3, b...))
		}
		for _, b := range [][]byte{nil, {0}, lay(uint16(1), "\xff"), lay(uint16(2), "a\x00"), lay(uint16(2), long), lay(uint16(3), many(11)), lay(uint16(3), many(13))} {
			c := outstandingOf(t, code)
			c.In(replyBytes(code, 3, exportBody(1, 1)...))
			wantBreak(t, "another information", c, replyBytes(code, 3, b...))
		}
	}
	for _, code := range []uint32{9, 10} {
		for _, b := range [][]byte{nil, {0, 0, 0}, metaBody(1, "\xff"), metaBody(1, "a\x00"), metaBody(1, long)} {
			wantBreak(t, "a context", outstandingOf(t, code), replyBytes(code, 4, b...))
		}
	}
}

// P16.6: an acknowledgement with Data, of whatever option.
func TestAcknowledgementWithData(t *testing.T) {
	for _, code := range codes() {
		c := outstandingOf(t, code)
		if code == 6 || code == 7 {
			c.In(replyBytes(code, 3, exportBody(1, 1)...))
		}
		wantBreak(t, fmt.Sprint("option ", code), c, replyBytes(code, 1, 0))
	}
}

// P16.6: LIST tells exports, any number of them, the same one twice too, and what stands behind a name is not looked at.
func TestList(t *testing.T) {
	c := outstandingOf(t, 3)
	var said []byte
	var wanted []api.Event
	for i := range 200 {
		name := strings.Repeat("x", i%5)
		said = append(said, replyBytes(3, 2, serverBody(name, many(i%3)...)...)...)
		wanted = append(wanted, api.Event{Kind: api.EvExport, Option: 3, Text: name})
	}
	wantEvents(t, "LIST", c.In(lay(said, ackBytes(3))), append(wanted, api.Event{Kind: api.EvAck, Option: 3})...)
	c = outstandingOf(t, 3)
	wantEvents(t, "LIST that ends badly", c.In(lay(said, replyBytes(3, api.RepShutdown))), append(slices.Clone(wanted), api.Event{Kind: api.EvRefused, Option: 3, Code: api.RepShutdown})...)
	wantEvents(t, "LIST of none", outstandingOf(t, 3).In(ackBytes(3)), api.Event{Kind: api.EvAck, Option: 3})
}

// infos are informations of every kind but the export's own.
func infos() map[string]api.Info {
	return map[string]api.Info{
		string(lay(uint16(1), "name")):                          {Kind: 1, Text: "name"},
		string(lay(uint16(2))):                                  {Kind: 2},
		string(lay(uint16(3), uint32(1), uint32(2), uint32(3))): {Kind: 3, Min: 1, Pref: 2, Max: 3},
		string(lay(uint16(4))):                                  {Kind: 4},
		string(lay(uint16(max16), "\x00\xff")):                  {Kind: max16, Data: []byte("\x00\xff")},
	}
}

// P16.6: of INFO and GO the export's own information comes first, and once; without it they can only be refused.
func TestInfoExport(t *testing.T) {
	for _, code := range []uint32{6, 7} {
		first := replyBytes(code, 3, exportBody(77, 5)...)
		export := api.Event{Kind: api.EvInfo, Option: code, Info: api.Info{Size: 77, Flags: 5}}
		for data, i := range infos() {
			other := replyBytes(code, 3, []byte(data)...)
			told := api.Event{Kind: api.EvInfo, Option: code, Info: i}
			wantBreak(t, "another one first", outstandingOf(t, code), lay(other, first))
			c := outstandingOf(t, code)
			wantEvents(t, "the export's and another one", c.In(lay(first, other, other)), export, told, told)
			wantBreak(t, "the export's again", c, first)
		}
		wantBreak(t, "the export's twice", outstandingOf(t, code), lay(first, replyBytes(code, 3, exportBody(78, 6)...)), export)
		wantBreak(t, "never", outstandingOf(t, code), ackBytes(code))
		refusal := api.Event{Kind: api.EvRefused, Option: code, Code: api.RepUnknown}
		c := outstandingOf(t, code)
		wantEvents(t, "refused", c.In(replyBytes(code, api.RepUnknown)), refusal)
		mustAsk(t, c, code)
		wantEvents(t, "refused behind the export's", c.In(lay(first, replyBytes(code, api.RepUnknown))), export, refusal)
		want(t, "Phase", c.Phase(), api.ClientOptions)
		mustAsk(t, c, code)
		wantBreak(t, "asked again, and never told", c, ackBytes(code))
	}
}

// P16.6: INFO leads to nothing; GO leads to the transmission, with what its own first information told.
func TestInfoAndGo(t *testing.T) {
	c := outstandingOf(t, 6)
	wantEvents(t, "INFO", c.In(lay(replyBytes(6, 3, exportBody(77, 5)...), ackBytes(6))), api.Event{Kind: api.EvInfo, Option: 6, Info: api.Info{Size: 77, Flags: 5}}, api.Event{Kind: api.EvAck, Option: 6})
	want(t, "Phase", c.Phase(), api.ClientOptions)
	mustAsk(t, c, 7)
	name := replyBytes(7, 3, lay(uint16(1), "name")...)
	wantEvents(t, "GO", c.In(lay(replyBytes(7, 3, exportBody(max64, max16)...), name, ackBytes(7))),
		api.Event{Kind: api.EvInfo, Option: 7, Info: api.Info{Size: max64, Flags: max16}}, api.Event{Kind: api.EvInfo, Option: 7, Info: api.Info{Kind: 1, Text: "name"}},
		api.Event{Kind: api.EvAck, Option: 7}, started(max64, max16))
	want(t, "Phase", c.Phase(), api.ClientWork)
	wantEvents(t, "an answer at once behind it", outstandingOf(t, 7).In(lay(replyBytes(7, 3, exportBody(0, 0)...), ackBytes(7), simpleBytes(0, 1)))[3:], api.Event{Kind: api.EvBroken})
}

// P16.6: the answer to EXPORT_NAME, with zeros unless the flags that were said say none.
func TestExportName(t *testing.T) {
	for said := range uint32(4) {
		zeroes := said < 2
		for _, size := range []uint64{0, 4096, max64} {
			for _, flags := range []uint16{0, 1, max16} {
				c := haggling(t, said)
				mustAsk(t, c, 1)
				b := exportBytes(size, flags, zeroes)
				wantEvents(t, "not all of it", c.In(b[:len(b)-1]))
				want(t, "Phase", c.Phase(), api.ClientOptions)
				wantEvents(t, "all of it", c.In(b[len(b)-1:]), started(size, flags))
				want(t, "Phase", c.Phase(), api.ClientWork)
				want(t, "the first cookie", mustRequest(t, c, read(0, 2)), 1)
				wantEvents(t, "an answer", c.In(simpleBytes(0, 1, 8, 9)), done(1, 0, 8, 9))
			}
		}
		if !zeroes {
			continue
		}
		for i := range 124 {
			c := haggling(t, said)
			mustAsk(t, c, 1)
			b := exportBytes(9, 9, true)
			b[10+i] = 1
			wantBreak(t, "zeros that are none", c, b)
		}
	}
	c := greeted(t, 1)
	c.Flags(1)
	mustAsk(t, c, 1)
	wantEvents(t, "a greeting without HandNoZeroes", c.In(exportBytes(1, 2, true)), started(1, 2))
}

// P16.6: what was agreed upon ahead of EXPORT_NAME holds behind it.
func TestExportNameKeeps(t *testing.T) {
	for _, f := range forms() {
		c := agreeing(t, f)
		mustAsk(t, c, 1)
		wantEvents(t, "EXPORT_NAME", c.In(exportBytes(4096, 1, false)), started(4096, 1))
		mustRequest(t, c, read(0, 2))
		if f.chunks {
			wantEvents(t, f.name, c.In(f.chunk(1, api.ChunkData, 1, 0, dataBody(0, 5, 6)...)), done(1, 0, 5, 6))
		} else {
			wantEvents(t, f.name, c.In(simpleBytes(0, 1, 5, 6)), done(1, 0, 5, 6))
		}
	}
}

// P16.6: STRUCTURED_REPLY and EXTENDED_HEADERS count where they were acknowledged, and nowhere else.
func TestAgreed(t *testing.T) {
	type asked struct {
		code uint32
		kind uint32
	}
	for name, list := range map[string][]asked{
		"plain":     {{8, api.RepUnsup}, {11, api.RepInvalid}, {3, 1}, {77, 1}},
		"in chunks": {{8, 1}, {8, api.RepInvalid}, {11, api.RepUnsup}},
		"extended":  {{11, 1}, {8, api.RepInvalid}, {11, api.RepInvalid}},
	} {
		for _, f := range append(forms(), form{name: "extended", chunks: true, extended: true}) {
			if f.name != name {
				continue
			}
			c := haggling(t, 3)
			for _, a := range list {
				mustAsk(t, c, a.code)
				c.In(replyBytes(a.code, a.kind))
			}
			goOn(t, c)
			b, _, _ := c.Request(write(0, []byte("x")))
			wantBytes(t, name, b, requestBytes(api.Request{Flags: map[bool]uint16{true: 32}[f.extended], Type: 1, Cookie: 1, Length: 1, Data: []byte("x")}, f.extended))
			mustRequest(t, c, read(0, 2))
			switch {
			case f.chunks:
				wantEvents(t, name, c.In(f.chunk(1, api.ChunkHole, 2, 0, holeBody(0, 2)...)), done(2, 0, 0, 0))
			default:
				wantEvents(t, name, c.In(simpleBytes(0, 2, 3, 4)), done(2, 0, 3, 4))
			}
		}
	}
	c := agreeing(t, form{chunks: true})
	agree(t, c, api.OptExtended)
	goOn(t, c)
	mustRequest(t, c, read(4, 2))
	wantEvents(t, "both", c.In(extended.chunk(1, api.ChunkHole, 1, 4, holeBody(4, 2)...)), done(1, 0, 0, 0))
}

// P16.6: ABORT; behind it nothing may come, and nothing be asked.
func TestAbort(t *testing.T) {
	c := outstandingOf(t, 2)
	wantEvents(t, "ABORT refused", c.In(replyBytes(2, api.RepUnsup)), api.Event{Kind: api.EvRefused, Option: 2, Code: api.RepUnsup})
	want(t, "Phase", c.Phase(), api.ClientOptions)
	mustAsk(t, c, 2)
	wantEvents(t, "ABORT", c.In(ackBytes(2)), api.Event{Kind: api.EvAck, Option: 2})
	want(t, "Phase", c.Phase(), api.ClientClosing)
	wantRefusals(t, "behind ABORT", c, api.ErrAsk)
	want(t, "Phase", c.Phase(), api.ClientClosing)
	wantBreak(t, "a byte behind it", outstandingOf(t, 2), lay(ackBytes(2), "x"), api.Event{Kind: api.EvAck, Option: 2})
	wantBreak(t, "a byte later", c, []byte{0x67})
}

// context is what is heard of one.
func context(code, id uint32, name string) api.Event {
	return api.Event{Kind: api.EvMeta, Option: code, Meta: api.Meta{ID: id, Name: name}}
}

// P16.6: of SET_META_CONTEXT each id once, and at most MaxQueries of them; of LIST_META_CONTEXT as many as are told, of whatever id.
func TestContexts(t *testing.T) {
	for _, ids := range [][]uint32{{0, 0}, {1, 2, 1}, {max32, 5, max32}} {
		c := outstandingOf(t, 10)
		last := len(ids) - 1
		for _, id := range ids[:last] {
			wantEvents(t, "a context", c.In(replyBytes(10, 4, metaBody(id, "n")...)), context(10, id, "n"))
		}
		wantBreak(t, "told already", c, replyBytes(10, 4, metaBody(ids[last], "another")...))
		c = outstandingOf(t, 9)
		for _, id := range ids {
			wantEvents(t, "a context that is listed", c.In(replyBytes(9, 4, metaBody(id, "n")...)), context(9, id, "n"))
		}
	}
	c := outstandingOf(t, 10)
	for i := range uint32(api.MaxQueries) {
		wantEvents(t, "a context", c.In(replyBytes(10, 4, metaBody(i*3, "")...)), context(10, i*3, ""))
	}
	wantBreak(t, "one too many", c, replyBytes(10, 4, metaBody(1, "")...))
	c = outstandingOf(t, 9)
	for i := range uint32(100) {
		wantEvents(t, "one of many", c.In(replyBytes(9, 4, metaBody(i/2, "n")...)), context(9, i/2, "n"))
	}
	wantEvents(t, "the end of the list", c.In(ackBytes(9)), api.Event{Kind: api.EvAck, Option: 9})
}

// wantChosen looks which contexts a client has chosen: a status is whole with just these.
func wantChosen(t *testing.T, what string, c *client.Client, ids ...uint32) {
	t.Helper()
	goOn(t, c)
	mustRequest(t, c, status(0, 4))
	var wanted []api.ContextRuns
	for _, id := range ids {
		wantEvents(t, what, c.In(inChunks.chunk(0, api.ChunkStatus, 1, 0, statusBody(false, id, run{4, 1})...)))
		wanted = append(wanted, api.ContextRuns{Context: id, Runs: []api.StatusRun{{Len: 4, Flags: 1}}})
	}
	wantEvents(t, what, c.In(inChunks.chunk(1, api.ChunkNone, 1, 0)), api.Event{Kind: api.EvDone, Cookie: 1, Status: wanted})
	for _, id := range []uint32{1, 2, 3, 4, 5} {
		if !slices.Contains(ids, id) {
			mustRequest(t, c, status(0, 4))
			wantBreak(t, what+": another context", c, inChunks.chunk(0, api.ChunkStatus, 2, 0, statusBody(false, id, run{4, 1})...))
			return
		}
	}
}

// P16.6: which contexts are chosen: those of the last SET_META_CONTEXT that was acknowledged, in the place of others; none, if a later one was refused. LIST_META_CONTEXT chooses nothing, and a new SET counts anew.
func TestChosen(t *testing.T) {
	begin := func() *client.Client { return agreeing(t, form{chunks: true}) }
	wantChosen(t, "never asked", begin())
	c := begin()
	choose(t, c, 4, 2)
	wantChosen(t, "two", c, 2, 4)
	c = begin()
	choose(t, c, 4, 2)
	choose(t, c, 3)
	wantChosen(t, "one in the place of two", c, 3)
	c = begin()
	choose(t, c, 4, 2)
	choose(t, c, 2, 4)
	wantChosen(t, "the same again", c, 4, 2)
	c = begin()
	choose(t, c, 1)
	choose(t, c)
	wantChosen(t, "none in the place of one", c)
	c = begin()
	choose(t, c, 1, 2)
	mustAsk(t, c, 10)
	c.In(lay(replyBytes(10, 4, metaBody(3, "x")...), replyBytes(10, api.RepUnknown)))
	wantChosen(t, "refused", c)
	c = begin()
	choose(t, c, 1)
	mustAsk(t, c, 9)
	c.In(lay(replyBytes(9, 4, metaBody(3, "x")...), ackBytes(9)))
	wantChosen(t, "listed", c, 1)
	c = begin()
	choose(t, c, 1)
	mustAsk(t, c, 9)
	c.In(replyBytes(9, api.RepUnknown))
	mustAsk(t, c, 7)
	c.In(replyBytes(7, api.RepUnknown))
	wantChosen(t, "others refused", c, 1)
	c = begin()
	var ids []uint32
	for i := range uint32(16) {
		ids = append(ids, i+1)
	}
	choose(t, c, ids...)
	choose(t, c, ids...)
	wantChosen(t, "sixteen", c, ids...)
}

// P16.6: options one behind the other, and bytes behind the last answer of one.
func TestBehindTheLastAnswer(t *testing.T) {
	for _, code := range []uint32{3, 8, 9, 10, 11, 77} {
		wantBreak(t, "behind an acknowledgement", outstandingOf(t, code), lay(ackBytes(code), ackBytes(code)), api.Event{Kind: api.EvAck, Option: code})
		wantBreak(t, "behind a refusal", outstandingOf(t, code), lay(replyBytes(code, api.RepUnsup), "x"), api.Event{Kind: api.EvRefused, Option: code, Code: api.RepUnsup})
	}
	c := haggling(t, 3)
	for i := range 50 {
		code := codes()[i%len(codes())]
		if code == 2 || code == 6 || code == 7 {
			continue
		}
		agree(t, c, code)
	}
}
