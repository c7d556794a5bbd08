package conn_test

import (
	"encoding/binary"
	"fmt"
	"slices"
	"testing"

	"spindle/api"
	"spindle/conn"
)

// A hearer is a client that holds what a server says against what the protocol lets it say, and knows nothing but that and what it asked itself.
type hearer struct {
	t                    *testing.T
	what                 string
	flags                uint32
	structured, extended bool
	begun                bool
	contexts             []uint32
	metas                []uint32            // the contexts' numbers that the last option was told
	requests             map[int]api.Request // those that were taken and not answered
	rest                 []byte
}

// cut gives the next n bytes that were said.
func (h *hearer) cut(n uint64) []byte {
	h.t.Helper()
	if uint64(len(h.rest)) < n {
		h.t.Fatalf("%s: %d bytes are said, %d are wanted", h.what, len(h.rest), n)
	}
	b := h.rest[:n]
	h.rest = h.rest[n:]
	return b
}

func (h *hearer) u16() uint16 { return binary.BigEndian.Uint16(h.cut(2)) }
func (h *hearer) u32() uint32 { return binary.BigEndian.Uint32(h.cut(4)) }
func (h *hearer) u64() uint64 { return binary.BigEndian.Uint64(h.cut(8)) }

// option hears all that is said to one; ended: the connection has ended by it.
func (h *hearer) option(code uint32, ended bool, said []byte) {
	h.t.Helper()
	h.rest = said
	old := h.flags&1 == 0
	switch {
	case code == api.OptExportName && !ended:
		h.u64()
		want(h.t, h.what+": TxHas", h.u16()&1, 1)
		if h.flags&2 == 0 {
			wantBytes(h.t, h.what+": zeros", h.cut(124), make([]byte, 124))
		}
		h.begun = true
	case code == api.OptExportName || old:
		want(h.t, h.what+": ended", ended, true)
	default:
		last := h.replies(code)
		want(h.t, h.what+": ended", ended, code == api.OptAbort && last == api.RepAck)
		h.acted(code, last)
	}
	want(h.t, h.what+": bytes that are left", len(h.rest), 0)
}

// replies hears the answers to an option, and tells the kind of the last.
func (h *hearer) replies(code uint32) uint32 {
	h.t.Helper()
	of := map[uint32]uint32{api.OptList: api.RepServer, api.OptInfo: api.RepInfo, api.OptGo: api.RepInfo, api.OptListMeta: api.RepMeta, api.OptSetMeta: api.RepMeta}
	h.metas = nil
	for n := 0; ; n++ {
		want(h.t, h.what+": the magic", h.u64(), 0x0003e889045565a9)
		want(h.t, h.what+": the option", h.u32(), code)
		kind := h.u32()
		data := h.cut(uint64(h.u32()))
		if kind != api.RepAck && kind == of[code] {
			if kind == api.RepMeta {
				h.metas = append(h.metas, binary.BigEndian.Uint32(data))
			}
			continue
		}
		refusals := []uint32{api.RepUnsup, api.RepInvalid, api.RepUnknown, api.RepBlockSize, api.RepTooBig}
		want(h.t, h.what+": a last answer", kind == api.RepAck || slices.Contains(refusals, kind) && n == 0, true)
		want(h.t, h.what+": its data", len(data), 0)
		return kind
	}
}

// acted remembers what was agreed upon by an option.
func (h *hearer) acted(code, last uint32) {
	ok := last == api.RepAck
	switch code {
	case api.OptStructured:
		h.structured = h.structured || ok
	case api.OptExtended:
		h.structured, h.extended = h.structured || ok, h.extended || ok
	case api.OptSetMeta:
		h.contexts = h.metas
	case api.OptGo:
		h.begun = ok
	}
}

// answer hears all that is said to a request, which must be one whole answer to it.
func (h *hearer) answer(q api.Request, said []byte) {
	h.t.Helper()
	h.rest = said
	if h.extended || h.structured && (q.Type == api.CmdRead || q.Type == api.CmdStatus) {
		h.chunks(q)
	} else {
		want(h.t, h.what+": the magic", h.u32(), 0x67446698)
		code := h.u32()
		want(h.t, h.what+": the cookie", h.u64(), q.Cookie)
		if q.Type == api.CmdRead && code == 0 {
			h.cut(q.Length)
		}
	}
	want(h.t, h.what+": bytes that are left", len(h.rest), 0)
}

// chunks hears chunks to the one that says that it is the last.
func (h *hearer) chunks(q api.Request) {
	h.t.Helper()
	got, told := uint64(0), 0
	for done := false; !done; {
		magic := h.u32()
		flags, kind := h.u16(), h.u16()
		want(h.t, h.what+": the cookie", h.u64(), q.Cookie)
		var data []byte
		if h.extended {
			want(h.t, h.what+": the magic", magic, 0x6e8a278c)
			want(h.t, h.what+": Off", h.u64(), q.Offset)
			data = h.cut(h.u64())
		} else {
			want(h.t, h.what+": the magic", magic, 0x668e33ef)
			data = h.cut(uint64(h.u32()))
		}
		done = flags == 1
		want(h.t, h.what+": the flags", flags <= 1, true)
		switch {
		case kind == api.ChunkData && q.Type == api.CmdRead:
			got += uint64(len(data)) - 8
		case kind == api.ChunkHole && q.Type == api.CmdRead:
			got += uint64(binary.BigEndian.Uint32(data[8:]))
		case !h.extended && kind == api.ChunkStatus, h.extended && kind == api.ChunkStatus64:
			want(h.t, h.what+": a status", q.Type, api.CmdStatus)
			want(h.t, h.what+": a context", slices.Contains(h.contexts, binary.BigEndian.Uint32(data)), true)
			told++
		default:
			want(h.t, h.what+": a kind that may be alone", kind == api.ChunkNone && q.Type != api.CmdRead && q.Type != api.CmdStatus || kind >= api.ChunkError && kind <= api.ChunkErrorAt, true)
			want(h.t, h.what+": alone", done && got == 0 && told == 0, true)
			return
		}
	}
	if q.Type == api.CmdRead {
		want(h.t, h.what+": bytes of a read", got, q.Length)
	}
	if q.Type == api.CmdStatus {
		want(h.t, h.what+": contexts", told, len(h.contexts))
	}
}

// took hears what is said when a message was taken.
func (h *hearer) took(took api.Took, phase api.ConnPhase, said []byte) {
	h.t.Helper()
	ended := took.Kind == api.TookEnd
	if took.Kind == api.TookRequest {
		h.requests[took.Task.ID] = took.Task.Req
	}
	if phase == api.PhaseOptions && (took.Kind == api.TookOption || took.Code != 0) {
		h.option(took.Code, ended, said)
	} else {
		wantBytes(h.t, h.what+": said to no option", said, nil)
	}
}

// W3, P14.13: whatever a client says, what leaves is what the protocol lets a server say, message by message and Send by Send; nothing leaves of itself.
func TestOnlyWhatMayBeSaid(t *testing.T) {
	d := dice(143)
	heard := map[string]int{}
	for run := range 1500 {
		exports, l := pick(&d, one(), several()), thrownLimits(&d)
		stream := thrownStream(&d, exports, l)
		for range d.below(3) * d.below(2) {
			stream[d.below(len(stream))] ^= 1 << d.below(8)
		}
		c := fresh(t, exports, l)
		wantBytes(t, "the greeting", c.Out(), greeting())
		h := &hearer{t: t, what: fmt.Sprint("run ", run), flags: binary.BigEndian.Uint32(stream), requests: map[int]api.Request{}}
		for len(stream) > 0 && !c.Over() && !t.Failed() {
			stream = stream[c.Feed(stream[:min(len(stream), 1+d.below(90))]):]
			wantBytes(t, h.what+": said of itself", c.Out(), nil)
			phase := c.Look().Phase
			if took := c.Take(); took.Kind != api.TookNone {
				heard[fmt.Sprint("taken ", took.Kind)]++
				h.took(took, phase, c.Out())
				want(t, h.what+": the transmission", h.begun, c.Look().Phase >= api.PhaseWork && !(phase < api.PhaseWork && c.Over()))
			}
			if d.below(3) == 0 || len(stream) == 0 || c.Look().Phase == api.PhaseDrain || busyTable(c, l) {
				answerSome(t, h, c, &d, heard)
			}
			if c.Look().Phase == api.PhaseDrain && len(c.Pending())+len(c.Ready()) == 0 {
				t.Fatal("it drains, with nothing to be answered")
			}
		}
		wantBytes(t, h.what+": said of itself", c.Out(), nil)
		if t.Failed() {
			t.FailNow()
		}
	}
	for _, what := range []string{"taken 1", "taken 2", "taken 3", "taken 4", "simple", "chunks", "extended"} {
		if heard[what] < 500 {
			t.Errorf("%s: only %d times", what, heard[what])
		}
	}
}

// answerSome finishes what is pending, and lets answers leave, in an order that is thrown.
func answerSome(t *testing.T, h *hearer, c *conn.Conn, d *dice, heard map[string]int) {
	t.Helper()
	for _, id := range c.Pending() {
		task, _ := c.Task(id)
		o := api.Outcome{Code: api.EIO}
		if task.Req.Length < 5000 && d.below(4) > 0 {
			o = well(c.Session(), task.Req)
		}
		want(t, h.what+": Finish", c.Finish(id, o), api.OK)
		wantBytes(t, h.what+": said by Finish", c.Out(), nil)
	}
	for l := c.Ready(); len(l) > 0 && !t.Failed(); l = c.Ready() {
		id := l[d.below(len(l))]
		want(t, h.what+": Send", c.Send(id), api.OK)
		h.answer(h.requests[id], c.Out())
		delete(h.requests, id)
		switch {
		case h.extended:
			heard["extended"]++
		case h.structured:
			heard["chunks"]++
		default:
			heard["simple"]++
		}
	}
}
