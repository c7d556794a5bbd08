package mirror_test

import (
	"fmt"
	"testing"

	"spindle/api"
)

// P24.9: a look behind every step of a short life, laid down by hand.
func TestLook(t *testing.T) {
	const o, j, s, w = api.MemberOut, api.MemberJoining, api.MemberStale, api.MemberWhole
	m := newDesk(t, "a short life", aPlan(3))
	type ranges = []api.Range
	look := func(what string, states []api.MemberState, missed []ranges, waiting, copying int) {
		t.Helper()
		wantLook(t, what, m.m.Look(), api.MirrorLook{Members: states, Missed: missed, Waiting: waiting, Copying: copying})
	}
	none := []ranges{nil, nil, nil}
	look("new", []api.MemberState{o, o, o}, none, 0, -1)
	m.join(1)
	look("joined", []api.MemberState{o, j, o}, none, 0, -1)
	m.hear(1, greetingBytes(3))
	look("greeted", []api.MemberState{o, j, o}, none, 0, -1)
	m.hear(1, startBytes(4096))
	look("begun", []api.MemberState{o, w, o}, none, 0, -1)
	m.write(10, []byte("abc"))
	look("a write", []api.MemberState{o, w, o}, []ranges{{{Lo: 10, Hi: 13}}, nil, {{Lo: 10, Hi: 13}}}, 1, -1)
	m.zero(13, 7)
	look("a zero that waits", []api.MemberState{o, w, o}, []ranges{{{Lo: 10, Hi: 13}}, nil, {{Lo: 10, Hi: 13}}}, 2, -1)
	m.hear(1, well(1))
	look("the zero", []api.MemberState{o, w, o}, []ranges{{{Lo: 10, Hi: 20}}, nil, {{Lo: 10, Hi: 20}}}, 1, -1)
	m.opens(2)
	look("another one", []api.MemberState{o, w, s}, []ranges{{{Lo: 10, Hi: 20}}, nil, {{Lo: 10, Hi: 20}}}, 1, -1)
	m.hear(1, well(2))
	look("a copying", []api.MemberState{o, w, s}, []ranges{{{Lo: 10, Hi: 20}}, nil, {{Lo: 10, Hi: 20}}}, 0, 2)
	m.write(15, []byte("z"))
	look("a write that waits", []api.MemberState{o, w, s}, []ranges{{{Lo: 10, Hi: 20}}, nil, {{Lo: 10, Hi: 20}}}, 1, 2)
	m.hear(1, well(3, many(10, 0)...))
	m.hear(2, well(1))
	look("copied", []api.MemberState{o, w, s}, []ranges{{{Lo: 10, Hi: 20}}, nil, nil}, 1, -1)
	m.hear(1, well(4))
	m.lost(2)
	look("dropped", []api.MemberState{o, w, o}, []ranges{{{Lo: 10, Hi: 20}}, nil, {{Lo: 15, Hi: 16}}}, 0, -1)
	m.lost(1)
	look("all are out", []api.MemberState{o, o, o}, []ranges{{{Lo: 10, Hi: 20}}, nil, {{Lo: 15, Hi: 16}}}, 0, -1)
	m.opens(2)
	m.trust(2)
	look("trusted", []api.MemberState{o, o, w}, []ranges{{{Lo: 0, Hi: 4096}}, {{Lo: 0, Hi: 4096}}, nil}, 0, -1)
	m.opens(0)
	look("copied to", []api.MemberState{s, o, w}, []ranges{{{Lo: 0, Hi: 4096}}, {{Lo: 0, Hi: 4096}}, nil}, 0, 0)
	m.wantDone(wentWell(1), wentWell(2), wentWell(3))
}

// P24.9: what is missed is told as a normal list: ranges that touch or overlap are one, in whatever order they were written; each part that is copied or written is gone.
func TestMissedIsNormal(t *testing.T) {
	d := dice(6)
	for r := range 60 {
		x := opened(t, fmt.Sprint("ranges ", r), 2)
		x.lost(1)
		var is [4096]bool
		lay := func(v bool) {
			lo, n := place(&d)
			for i := range n {
				is[lo+i] = v
			}
			x.zero(uint64(lo), uint32(n))
		}
		for range 30 {
			lay(true)
			x.settle()
			x.wantMissed(1, endsOf(is[:])...)
		}
		x.opens(1)
		for range 10 { // while it is stale what is written it misses no more, as what is copied
			lay(false)
			c := x.m.Look()
			if c.Copying != 1 || len(c.Missed[1]) == 0 {
				break
			}
			for i := range min(1024, c.Missed[1][0].Hi-c.Missed[1][0].Lo) {
				is[c.Missed[1][0].Lo+i] = false
			}
			x.finishCopying()
			x.wantMissed(1, endsOf(is[:])...)
		}
	}
}

// place throws for a range of the device of 4096 bytes: its first byte, and how many it has.
func place(d *dice) (lo, n int) {
	lo = d.below(4096)
	return lo, 1 + d.below(min(pick(d, 3, 60, 600), 4096-lo))
}

// finishCopying lets a copying end, and the operation that has waited for it.
func (d *desk) finishCopying() {
	d.t.Helper()
	q := requestsIn(d.t, d.say(0))
	last := q[len(q)-1]
	d.hear(0, well(last.Cookie, make([]byte, last.Length)...))
	for range 2 {
		for k := range 2 {
			for _, q := range requestsIn(d.t, d.say(k)) {
				if q.Type != api.CmdRead {
					d.hear(k, well(q.Cookie))
				}
			}
		}
	}
}

// endsOf gives the ends of the rows of places that are true.
func endsOf(is []bool) []int64 {
	var ends []int64
	for i := range is {
		if is[i] && (i == 0 || !is[i-1]) {
			ends = append(ends, int64(i))
		}
		if is[i] && (i == len(is)-1 || !is[i+1]) {
			ends = append(ends, int64(i+1))
		}
	}
	return ends
}
