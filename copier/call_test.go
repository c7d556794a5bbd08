package copier_test

import (
	"math"
	"testing"

	"spindle/api"
	"spindle/copier"
)

// R1: a copier that New did not give answers ErrNil, and is nothing else.
func TestCopiersThatNoCallMade(t *testing.T) {
	var none *copier.Copier
	for name, c := range map[string]*copier.Copier{"nil": none, "zero": {}} {
		for range 2 {
			for _, side := range []int{0, 1, 2, -1, math.MaxInt, math.MinInt} {
				for _, b := range [][]byte{nil, {}, {0}, greetingBytes(3), ackBytes(8), startBytes(8192), simpleBytes(0, 1), many(1000, 0)} {
					want(t, name+": Hear", c.Hear(side, b), api.ErrNil)
				}
				want(t, name+": Lost", c.Lost(side), api.ErrNil)
				wantBytes(t, name+": Say", c.Say(side), nil)
				want(t, name+": State", c.State(), api.CopyState{})
			}
		}
	}
	want(t, "a zero one is still one", copier.Copier{} == copier.Copier{}, true)
}

// moments are desks at all points of a copy.
func moments(t *testing.T) []*desk {
	t.Helper()
	greeted := newDesk(t, "a greeting", aPlan())
	greeted.hear(0, greetingBytes(3))
	begun := newDesk(t, "one side", aPlan())
	begun.begin(1, form{}, 8192)
	gone := written(t, "a lost one")
	gone.lost(1)
	return []*desk{newDesk(t, "new", aPlan()), greeted, begun, written(t, "at work"), gone, flushing(t, "a flush"), over(t, "done"), failed(t, "failed")}
}

// flushing gives a desk at which the flush is outstanding, with the cookie 3.
func flushing(t *testing.T, what string) *desk {
	t.Helper()
	d := written(t, what)
	d.hear(1, simpleBytes(0, 2), simpleBytes(0, 1))
	d.wantSay(1, flushBytes(3))
	return d
}

func over(t *testing.T, what string) *desk {
	t.Helper()
	d := flushing(t, what)
	d.hear(1, simpleBytes(0, 3))
	return d
}

func failed(t *testing.T, what string) *desk {
	t.Helper()
	d := written(t, what)
	d.hear(1, many(50, 0))
	return d
}

// P23.2, P23.7: of a side that is none nothing is heard, said or lost, at whatever point, and nothing changes.
func TestNoSuchSide(t *testing.T) {
	for n := range moments(t) {
		d, other := moments(t)[n], moments(t)[n]
		for _, side := range []int{2, -1, 3, 256, -256, 1 << 32, 1<<32 + 1, math.MaxInt, math.MinInt} {
			for _, b := range [][]byte{nil, greetingBytes(3), simpleBytes(0, 2), many(50, 0)} {
				d.hear(side, b)
				want(t, d.what+": Hear", d.c.Hear(side, b), api.ErrSide)
			}
			d.lost(side)
			want(t, d.what+": Lost", d.c.Lost(side), api.ErrSide)
			wantBytes(t, d.what+": Say", d.c.Say(side), nil)
			d.wantState(other.c.State())
		}
		for side := range 2 {
			d.wantSay(side, other.say(side))
		}
	}
}

// P23.2: no byte leads to nothing, at whatever point.
func TestNoByte(t *testing.T) {
	for n, d := range moments(t) {
		other := moments(t)[n]
		for side := range 2 {
			d.hear(side, nil)
			d.hear(side, []byte{})
			d.wantSay(side, other.say(side))
		}
		d.wantState(other.c.State())
	}
}

// P23.2: Say gives the mail once; what joins it stands behind what was not taken away.
func TestSay(t *testing.T) {
	d := newDesk(t, "the mail", aPlan())
	d.hear(1, greetingBytes(3))
	d.begin(0, plainly, 8192)
	d.hear(1, startBytes(8192))
	d.wantSay(1, flagBytes(3), goBytes("b"))
	d.hear(0, plainly.read(1, 0, many(4096, 0)))
	d.hear(0, plainly.read(2, 4096, many(4096, 5)))
	d.wantSay(1, writeBytes(1, 0, many(4096, 0)), writeBytes(2, 4096, many(4096, 5)))
	d.wantSay(1)
	d.wantSay(0, readBytes(1, 0, 4096), readBytes(2, 4096, 4096))
}
