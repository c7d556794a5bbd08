package conn_test

import (
	"bytes"
	"fmt"
	"testing"

	"spindle/api"
	"spindle/conn"
	"spindle/nego"
	"spindle/wire"
)

// exportFlags are those of an export of the chapter's examples, not in chunks.
const exportFlags = uint16(api.TxHas | api.TxFlush | api.TxFua | api.TxCache | api.TxMulti | api.TxTrim | api.TxZeroes | api.TxFast)

// opts are options of all kinds, right and wrong, none of which ends or begins anything.
func opts() [][]byte {
	return [][]byte{
		option(api.OptList), option(api.OptList, 1), option(api.OptStartTLS), option(api.OptStructured), option(api.OptExtended), option(api.OptStructured), option(77, 1, 2, 3), option(0), option(max32),
		option(api.OptInfo, infoRequest("first", 3, 2, 1)...), option(api.OptInfo, infoRequest("second")...), option(api.OptInfo, infoRequest("nobody")...), option(api.OptInfo), option(api.OptGo, 1, 2),
		option(api.OptGo, infoRequest("nobody")...), option(api.OptListMeta, metaRequest("first")...), setMeta("first", "spindle:dirty"), setMeta("second", "x"), option(api.OptSetMeta, 9),
	}
}

// hold is what nego says to an option, as bytes.
func hold(t *testing.T, talk *nego.Talk, ask []byte) ([]byte, api.NegoStep) {
	t.Helper()
	o, _, e := wire.DecodeOption(ask, api.MaxOption)
	want(t, "an option", e, api.OK)
	replies, step, e := talk.Option(o)
	want(t, "nego", e, api.OK)
	var b []byte
	for _, r := range replies {
		b = append(b, replyBytes(o.Code, r.Kind, r.Data...)...)
	}
	return b, step
}

// talking gives a talk that has taken flags, of exports.
func talking(t *testing.T, exports []api.Export, l api.Limits) *nego.Talk {
	t.Helper()
	talk, e := nego.New(exports, l)
	want(t, "nego.New", e, api.OK)
	want(t, "nego's Flags", talk.Flags(3), api.OK)
	return talk
}

// P14.3: of no byte and of every part of an option nothing is taken; of the whole just it, with nego's answers in order.
func TestOptionsByParts(t *testing.T) {
	for i, ask := range opts() {
		for n := range ask {
			what := fmt.Sprintf("option %d, %d of its bytes", i, n)
			c := haggling(t, several(), wide(2), 3)
			answer, _ := hold(t, talking(t, several(), wide(2)), ask)
			give(t, c, ask[:n])
			wantVain(t, what, c)
			wantLook(t, what, c, api.ConnLook{Phase: api.PhaseOptions, Inbox: n, Next: 1})
			give(t, c, lay(ask[n:], "IHAVE"))
			code := uint32(ask[8])<<24 | uint32(ask[9])<<16 | uint32(ask[10])<<8 | uint32(ask[11])
			wantTook(t, what, c.Take(), api.Took{Kind: api.TookOption, Code: code})
			wantLook(t, what, c, api.ConnLook{Phase: api.PhaseOptions, Session: c.Session(), Inbox: 5, Outbox: len(answer), Next: 1})
			wantBytes(t, what, c.Out(), answer)
		}
	}
}

// P14.3, P14.13: one option behind the other; their answers gather in the outbox, in order, behind the greeting.
func TestOptionsInOrder(t *testing.T) {
	c, talk := fresh(t, several(), wide(2)), talking(t, several(), wide(2))
	said := greeting()
	give(t, c, flagBytes(3))
	want(t, "flags", c.Take().Kind, api.TookFlags)
	for i, ask := range opts() {
		give(t, c, ask)
		want(t, fmt.Sprint("option ", i), c.Take().Kind, api.TookOption)
		answer, step := hold(t, talk, ask)
		want(t, fmt.Sprint("option ", i), step.Kind, api.NegoOn)
		said = append(said, answer...)
		want(t, "the outbox", c.Look().Outbox, len(said))
		wantSame(t, "Session", c.Session(), talk.Session())
	}
	wantBytes(t, "all of it", c.Out(), said)
}

// P14.3: an option with another magic, in whichever of its bytes, ends the connection as soon as its head is there.
func TestOptionWithAnotherMagic(t *testing.T) {
	for i := range 8 {
		ask := goTo("a")
		ask[i] ^= 1
		for _, n := range []int{16, 17, len(ask)} {
			c := haggling(t, one(), small(1), 3)
			give(t, c, option(api.OptStructured))
			c.Take()
			give(t, c, ask[:15])
			wantVain(t, "15 bytes", c)
			give(t, c, ask[15:n])
			wantEnd(t, fmt.Sprintf("byte %d is another, %d are there", i, n), c, api.Took{Kind: api.TookEnd}, replyBytes(api.OptStructured, api.RepAck))
		}
	}
	c := haggling(t, one(), small(1), 3)
	give(t, c, requestBytes(read(1, 0, 512), false))
	wantEnd(t, "a request ahead of the transmission", c, api.Took{Kind: api.TookEnd}, nil)
}

// P14.3: an option longer than the limit is refused as soon as its head is there; its bytes are passed over, whatever they are and however they come, and what follows is taken.
func TestOptionTooLong(t *testing.T) {
	const length = 65
	for there := 0; there <= length+16; there++ {
		what := fmt.Sprintf("%d bytes of it are there", there)
		c := haggling(t, one(), small(1), 3)
		row := lay("IHAVEOPT", uint32(api.OptGo), uint32(length), bytes.Repeat([]byte("IHAVEOPT"), 9)[:length], option(api.OptList))
		give(t, c, row[:16+there])
		wantTook(t, what, c.Take(), api.Took{Kind: api.TookOption, Code: api.OptGo})
		wantBytes(t, what, c.Out(), replyBytes(api.OptGo, api.RepTooBig))
		want(t, what+": held", c.Look().Inbox, max(0, there-length))
		if there < length+16 {
			wantVain(t, what, c)
		}
		give(t, c, row[16+there:])
		wantTook(t, what, c.Take(), api.Took{Kind: api.TookOption, Code: api.OptList})
		wantBytes(t, what, c.Out(), lay(replyBytes(api.OptList, api.RepServer, lay(uint32(1), "a")...), replyBytes(api.OptList, api.RepAck)))
		wantVain(t, what, c)
	}
}

// P14.2, P14.3: bytes that are passed over need no room.
func TestPassedOverWithoutRoom(t *testing.T) {
	const room, length = 512 + 32, 100_000
	c := haggling(t, one(), small(1), 3)
	give(t, c, lay("IHAVEOPT", uint32(9), uint32(length)))
	wantTook(t, "a long one", c.Take(), api.Took{Kind: api.TookOption, Code: 9})
	want(t, "many bytes at once", c.Feed(make([]byte, length-1)), length-1)
	wantVain(t, "one byte is to come", c)
	want(t, "the last one, and more than there is room for", c.Feed(make([]byte, 1+room+5)), 1+room)
	want(t, "held", c.Look().Inbox, room)
}

// P14.3: an option of just the limit is none that is too long.
func TestOptionOfTheLimit(t *testing.T) {
	for _, length := range []int{63, 64, 65, 1000} {
		c := haggling(t, one(), small(1), 3)
		give(t, c, lay("IHAVEOPT", uint32(6), uint32(length), many(min(length, 64))))
		kind := api.RepTooBig
		if length <= 64 {
			kind = api.RepInvalid
		}
		wantTook(t, fmt.Sprint(length), c.Take(), api.Took{Kind: api.TookOption, Code: 6})
		wantBytes(t, fmt.Sprint(length), c.Out(), replyBytes(6, kind))
	}
}

// P14.3: EXPORT_NAME of an export, with its zeros and without; of none, and too long.
func TestExportName(t *testing.T) {
	for f := range uint32(4) {
		zeros := make([]byte, 124)
		if f&2 != 0 {
			zeros = nil
		}
		for _, name := range []string{"a", ""} {
			c := haggling(t, one(), small(3), f)
			give(t, c, lay(exportName(name), requestBytes(read(5, 0, 512), false)))
			wantTook(t, name, c.Take(), api.Took{Kind: api.TookOption, Code: 1})
			wantLook(t, name, c, api.ConnLook{Phase: api.PhaseWork, Inbox: 28, Outbox: 10 + len(zeros), Next: 1})
			wantBytes(t, name, c.Out(), lay(uint64(4096), exportFlags, zeros))
			wantTook(t, name, c.Take(), api.Took{Kind: api.TookRequest, Task: api.Task{ID: 1, Req: read(5, 0, 512)}})
		}
		for _, ask := range [][]byte{exportName("b"), exportName("none"), exportName("a\x00"), exportName("A"), lay("IHAVEOPT", uint32(1), uint32(65)), lay("IHAVEOPT", uint32(1), uint32(max32), "a")} {
			c := haggling(t, one(), small(3), f)
			give(t, c, ask)
			wantEnd(t, fmt.Sprintf("% x", ask), c, api.Took{Kind: api.TookEnd, Code: 1}, nil)
		}
	}
}

// P14.3: EXPORT_NAME behind other options: what they agreed upon holds, and its answer stands behind theirs.
func TestExportNameBehindOthers(t *testing.T) {
	c := haggling(t, several(), wide(2), 1)
	give(t, c, lay(option(api.OptExtended), setMeta("", "base:allocation"), exportName("first")))
	for _, code := range []uint32{api.OptExtended, api.OptSetMeta, api.OptExportName} {
		wantTook(t, "an option", c.Take(), api.Took{Kind: api.TookOption, Code: code})
	}
	wantSame(t, "Session", c.Session(), api.Session{Structured: true, Extended: true, Contexts: []uint32{1}})
	wantBytes(t, "Out", c.Out(), lay(replyBytes(api.OptExtended, api.RepAck), replyBytes(api.OptSetMeta, api.RepMeta, lay(uint32(1), "base:allocation")...), replyBytes(api.OptSetMeta, api.RepAck),
		uint64(8192), exportFlags|api.TxDF, make([]byte, 124)))
}

// P14.3: GO of an export begins the transmission, behind its answers; of none it does not.
func TestGo(t *testing.T) {
	for _, f := range forms() {
		for index, e := range several() {
			talk := talking(t, several(), wide(2))
			c := haggling(t, several(), wide(2), 3)
			var said []byte
			for _, ask := range f.asks(e.Name) {
				give(t, c, option(api.OptGo, infoRequest("nobody")...))
				wantTook(t, f.name, c.Take(), api.Took{Kind: api.TookOption, Code: api.OptGo})
				said = append(said, replyBytes(api.OptGo, api.RepUnknown)...)
				want(t, f.name+": the phase", c.Look().Phase, api.PhaseOptions)
				give(t, c, ask)
				want(t, f.name, c.Take().Kind, api.TookOption)
				answer, _ := hold(t, talk, ask)
				said = append(said, answer...)
			}
			s := c.Session()
			want(t, f.name+": Index", s.Index, index)
			want(t, f.name+": Structured", s.Structured, f.structured || f.extended)
			want(t, f.name+": Extended", s.Extended, f.extended)
			wantSame(t, f.name+": Session", s, talk.Session())
			wantLook(t, f.name, c, api.ConnLook{Phase: api.PhaseWork, Session: s, Outbox: len(said), Next: 1})
			wantBytes(t, f.name, c.Out(), said)
		}
	}
}

// P14.3: ABORT ends the connection, and its acknowledgement still leaves, behind what waited.
func TestAbort(t *testing.T) {
	for _, data := range [][]byte{nil, {1}, many(64)} {
		c := haggling(t, one(), small(1), 3)
		give(t, c, lay(option(api.OptStructured), option(api.OptAbort, data...), goTo("a")))
		wantTook(t, "an option ahead", c.Take(), api.Took{Kind: api.TookOption, Code: api.OptStructured})
		wantEnd(t, "ABORT", c, api.Took{Kind: api.TookEnd, Code: api.OptAbort}, lay(replyBytes(api.OptStructured, api.RepAck), replyBytes(api.OptAbort, api.RepAck)))
	}
}

// P14.3: an old client that asks something else than EXPORT_NAME goes without an answer.
func TestOldClient(t *testing.T) {
	for _, f := range []uint32{0, 2} {
		for _, code := range []uint32{2, 3, 5, 6, 7, 8, 9, 10, 11, 0, 77, max32} {
			for _, ask := range [][]byte{option(code), lay("IHAVEOPT", code, uint32(5000))} {
				c := haggling(t, one(), small(1), f)
				give(t, c, ask)
				wantEnd(t, fmt.Sprint("option ", code), c, api.Took{Kind: api.TookEnd, Code: code}, nil)
			}
		}
	}
}

// inPhase looks that a connection is in a phase.
func inPhase(t *testing.T, what string, c *conn.Conn, phase api.ConnPhase) {
	t.Helper()
	want(t, what+": the phase", c.Look().Phase, phase)
	want(t, what+": Over", c.Over(), phase == api.PhaseOver)
}
