package conn_test

import (
	"fmt"
	"math"
	"slices"
	"strings"
	"testing"

	"spindle/api"
	"spindle/conn"
	"spindle/nego"
)

// with gives an export in which one thing is changed.
func with(e api.Export, change func(*api.Export)) api.Export {
	change(&e)
	return e
}

// full are as many exports, with as long names and descriptions, as may be.
func full() []api.Export {
	var out []api.Export
	for i := range api.MaxExports {
		e := export(strings.Repeat("n", api.MaxName-1)+string(rune('a'+i)), 8*(i+1))
		e.Desc = strings.Repeat("d", api.MaxDesc)
		out = append(out, e)
	}
	return out
}

// wrongLists are lists of exports that may not be.
func wrongLists() [][]api.Export {
	a := export("a", 8)
	out := [][]api.Export{nil, {}, {{}}, append(full(), export("b", 1)), {a, a}, {export("a", 40000), export("b", 40000)}}
	for _, e := range []api.Export{
		export("", 8), export("\x00", 8), export("\xff", 8), export(strings.Repeat("n", 257), 8),
		export("a", 0), export("a", -1), export("a", math.MinInt), export("a", math.MaxInt), export("a", api.MaxSectors+1),
		with(a, func(e *api.Export) { e.Desc = strings.Repeat("d", 257) }), with(a, func(e *api.Export) { e.Desc = "\x00" }),
		with(a, func(e *api.Export) { e.Min = 0 }), with(a, func(e *api.Export) { e.Min = 3 }), with(a, func(e *api.Export) { e.Pref = 513 }),
		with(a, func(e *api.Export) { e.Private, e.ReadOnly = true, true }), with(a, func(e *api.Export) { e.Private, e.Tracked = true, true }),
	} {
		out = append(out, []api.Export{e}, []api.Export{export("first", 1), e})
	}
	return out
}

func wantNone(t *testing.T, what string, exports []api.Export, l api.Limits, wanted api.Errno) {
	t.Helper()
	c, e := conn.New(exports, l)
	want(t, what, e, wanted)
	want(t, what+": a connection", c != nil, false)
	_, e = nego.New(exports, l)
	want(t, what+": nego.New", e, wanted)
}

// P14.1, R3: exports that may not be are refused, whatever the limits are.
func TestNewOfExports(t *testing.T) {
	for i, l := range wrongLists() {
		wantNone(t, fmt.Sprint("wrong exports ", i), l, small(1), api.ErrExports)
		wantNone(t, fmt.Sprint("wrong exports and limits ", i), l, api.Limits{}, api.ErrExports)
	}
	for i, l := range [][]api.Export{one(), several(), full(), full()[:15], {export("a", 1)}, {export("a", 65478)}} {
		wantFresh(t, fmt.Sprint("right exports ", i), l, small(1))
	}
}

// wantFresh looks that there is a connection, and that it is as a new one is.
func wantFresh(t *testing.T, what string, exports []api.Export, l api.Limits) {
	t.Helper()
	c, e := conn.New(exports, l)
	want(t, what, e, api.OK)
	if c == nil {
		t.Fatal(what, ": no connection")
	}
	wantLook(t, what, c, api.ConnLook{Phase: api.PhaseFlags, Outbox: 18, Next: 1})
	want(t, what+": Over", c.Over(), false)
	wantSame(t, what+": Session", c.Session(), api.Session{})
	wantVain(t, what, c)
	wantBytes(t, what+": Out", c.Out(), greeting())
	wantBytes(t, what+": Out again", c.Out(), nil)
	wantLook(t, what, c, api.ConnLook{Phase: api.PhaseFlags, Next: 1})
}

// P14.1, R7: limits at each bound, and one beyond it.
func TestNewOfLimits(t *testing.T) {
	for _, payload := range []uint32{512, 513, 65536, 1048575, 1048576} {
		for _, option := range []uint32{64, 65, 65535, 65536} {
			for _, flight := range []int{1, 2, 63, 64} {
				l := api.Limits{Payload: payload, Option: option, Flight: flight}
				wantFresh(t, told(l), one(), l)
			}
		}
	}
	var wrong []api.Limits
	for _, payload := range []uint32{0, 1, 511, 1048577, 1 << 31, max32} {
		wrong = append(wrong, api.Limits{Payload: payload, Option: 64, Flight: 1})
	}
	for _, option := range []uint32{0, 1, 63, 65537, 1 << 31, max32} {
		wrong = append(wrong, api.Limits{Payload: 512, Option: option, Flight: 1})
	}
	for _, flight := range []int{math.MinInt, -1, 0, 65, 1 << 32, 1<<32 + 1, math.MaxInt} {
		wrong = append(wrong, api.Limits{Payload: 512, Option: 64, Flight: flight})
	}
	for _, l := range slices.Concat(wrong, []api.Limits{{}, {Payload: 1048577, Option: 65537, Flight: 65}}) {
		wantNone(t, told(l), one(), l, api.ErrLimits)
	}
}

// P14.1: the inbox has room for 32 bytes more than the greater of Payload and Option, in each phase in which it takes any.
func TestRoom(t *testing.T) {
	for _, payload := range []uint32{512, 1000, 65536, 1048576} {
		for _, most := range []uint32{64, 600, 65536} {
			l := api.Limits{Payload: payload, Option: most, Flight: 1}
			room := int(max(payload, most)) + 32
			c := fresh(t, one(), l)
			want(t, told(l), c.Feed(make([]byte, room+100)), room)
			want(t, told(l)+": full", c.Feed([]byte{1}), 0)
			want(t, told(l)+": held", c.Look().Inbox, room)
			wantTook(t, told(l), c.Take(), api.Took{Kind: api.TookFlags})
			want(t, told(l)+": behind the flags", c.Feed(make([]byte, 9)), 4)

			c = haggling(t, one(), l, 3)
			want(t, told(l)+", options", c.Feed(make([]byte, room+1)), room)
			c = working(t, one(), l, form{}, "a")
			want(t, told(l)+", work", c.Feed(make([]byte, room+1)), room)
		}
	}
}

// P14.1, P14.3, R7: at the limits all is as below them: a payload, an option and as many requests as may be.
func TestAtTheLimits(t *testing.T) {
	for _, l := range []api.Limits{{Payload: 512, Option: 64, Flight: 1}, {Payload: 1048576, Option: 65536, Flight: 64}, {Payload: 512, Option: 65536, Flight: 2}, {Payload: 1048576, Option: 64, Flight: 63}} {
		c := haggling(t, []api.Export{export("a", 4096)}, l, 3)
		give(t, c, option(77, many(int(l.Option))...))
		wantTook(t, told(l), c.Take(), api.Took{Kind: api.TookOption, Code: 77})
		wantBytes(t, told(l), c.Out(), replyBytes(77, api.RepUnsup))
		give(t, c, goTo(""))
		want(t, told(l), c.Take().Kind, api.TookOption)
		c.Out()
		q := write(9, 0, many(int(l.Payload)))
		for i := range l.Flight {
			took := request(t, c, q)
			want(t, told(l), took.Task.ID, i+1)
			want(t, told(l), took.Refused, false)
		}
		give(t, c, requestBytes(q, false))
		wantVain(t, told(l)+": a full table", c)
		want(t, told(l), c.Finish(l.Flight, api.Outcome{}), api.OK)
		wantVain(t, told(l)+": a full table with an answer", c)
		want(t, told(l), c.Send(l.Flight), api.OK)
		want(t, told(l), c.Take().Task.ID, l.Flight+1)
	}
}
