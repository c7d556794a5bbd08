package copier_test

import (
	"fmt"
	"testing"

	"spindle/api"
)

// mayWork tells whether a plan comes to an end with such a source.
func mayWork(plan api.CopyPlan, f form) bool { return !plan.Dirty || f.tellsMarks() }

// P23.7, P23.8: a copy in all forms, and a loss of either side, or of both, at every step of it: it comes to a copy all the same.
func TestLostAtEveryStep(t *testing.T) {
	for _, f := range forms() {
		for _, plan := range []api.CopyPlan{aPlan(), dirtyPlan()} {
			if !mayWork(plan, f) {
				continue
			}
			what := fmt.Sprintf("%s, dirty %v", f.name, plan.Dirty)
			calm := newScene(t, what, plan, f, 27)
			steps := calm.play(func(int) {})
			calm.wantCopy(false)
			for at := range steps {
				for sides := 1; sides < 4; sides++ {
					s := newScene(t, fmt.Sprintf("%s, sides %b lost at step %d", what, sides, at), plan, f, 27)
					s.play(func(n int) {
						for side := range 2 {
							if n == at && sides&(side+1) != 0 {
								s.lose(side)
							}
						}
					})
					s.wantCopy(sides&1 != 0)
				}
			}
		}
	}
}

// P23.7: losses at every two steps, with a plan of one try: no loss is an error.
func TestLostTwice(t *testing.T) {
	plan := dirtyPlan()
	plan.Tries, plan.Flight = 1, 3
	for at := range 40 {
		for later := range 40 {
			s := newScene(t, fmt.Sprintf("lost at steps %d and %d", at, at+later), plan, both, 27)
			s.play(func(n int) {
				if n == at {
					s.lose((at + later) % 2)
				}
				if n == at+later {
					s.lose(later / 2 % 2)
				}
			})
			s.wantCopy(true)
		}
	}
}

// P23.7: losses ahead of the work leave nothing behind: all begins anew.
func TestLostAheadOfTheWork(t *testing.T) {
	for side := range 2 {
		for point := range 5 {
			d := newDesk(t, fmt.Sprintf("side %d lost at point %d", side, point), dirtyPlan())
			steps := [][]byte{greetingBytes(3), ackBytes(8), both.contexts(), startBytes(4096)}
			if side == 1 {
				steps = [][]byte{greetingBytes(3), startBytes(8192)}
			}
			for _, b := range steps[:min(point, len(steps))] {
				d.hear(side, b)
			}
			d.lost(side)
			d.wantSay(side)
			d.wantState(api.CopyState{Phase: api.CopyBegin})
			d.begin(1-side, both, 8192)
			d.wantState(api.CopyState{Phase: api.CopyBegin})
			d.lost(1 - side)
			d.lost(1 - side)
			d.begin(side, both, 8192)
			d.wantState(api.CopyState{Phase: api.CopyBegin})
			d.begin(1-side, both, 8192)
			d.wantState(api.CopyState{Phase: api.CopyWork, Size: 8192})
			d.wantSay(0, statusBytes(1, 0, 4096), statusBytes(2, 4096, 4096))
		}
	}
}

// P23.7: half a message that a lost connection has said is nothing to the next one.
func TestHalfAMessage(t *testing.T) {
	d := written(t, "half a message")
	d.hear(1, simpleBytes(0, 2)[:9])
	d.hear(0, chunkBytes(0, 0, 9)[:12])
	d.lost(1)
	d.lost(0)
	d.begin(1, form{}, 8192)
	d.wantSay(1, writeBytes(1, 0, many(4096, 0)), zeroBytes(2, 4096, 4096))
	d.hear(1, simpleBytes(0, 2), simpleBytes(0, 1))
	d.wantSay(1, flushBytes(3))
	want(t, "Done", d.c.State().Done, 8192)
}

// P23.7, P23.5: each kind of errand is asked again when its side has begun, from the cookie 1 on; the askings of a lost connection count for Tries, and Again does not grow by them.
func TestLostErrands(t *testing.T) {
	for _, r := range errands() {
		for losses := range 4 {
			d := r.reach(t, fmt.Sprintf("%s, lost %d times", r.name, losses), aPlan())
			s := d.c.State()
			cookie := r.cookie
			for range losses {
				d.lost(r.side)
				d.wantState(s)
				d.wantSay(r.side)
				d.begin(r.side, telling, 8192)
				d.wantState(s)
				d.wantSay(r.side, r.again(1))
				d.wantSay(1 - r.side)
				cookie = 1
			}
			for asked := losses + 1; asked < 3; asked++ {
				d.hear(r.side, r.fails(cookie, 5))
				cookie++
				s.Again++
				d.wantState(s)
				d.wantSay(r.side, r.again(cookie))
			}
			d.hear(r.side, r.fails(cookie, 28))
			d.wantFailed(s, r.side, 28, r.off)
		}
	}
}

// P23.7: an errand that was lost more often than Tries is still answered well.
func TestLostManyTimes(t *testing.T) {
	for _, r := range errands() {
		plan := aPlan()
		plan.Tries = 1
		d := r.reach(t, r.name+", lost ten times", plan)
		for range 10 {
			d.lost(r.side)
			d.begin(r.side, telling, 8192)
			d.wantSay(r.side, r.again(1))
		}
		d.hear(r.side, r.well(1))
		want(t, d.what+": Again", d.c.State().Again, 0)
		want(t, d.what+": failed", d.c.State().Phase == api.CopyFailed, false)
	}
}

// P23.7: a loss of the other side is nothing to an errand.
func TestTheOtherSideIsLost(t *testing.T) {
	for _, r := range errands() {
		d := r.reach(t, r.name+", the other side lost", aPlan())
		s := d.c.State()
		d.lost(1 - r.side)
		d.wantState(s)
		d.hear(r.side, r.fails(r.cookie, 5))
		s.Again = 1
		d.wantState(s)
		d.wantSay(r.side, r.again(r.cookie+1))
		d.wantSay(1 - r.side)
	}
}

// P23.7: the mail of a lost connection is gone, and the requests in it are asked again.
func TestLostMail(t *testing.T) {
	d := working(t, "the mail", aPlan(), plainly, 8192)
	d.lost(0)
	d.wantSay(0)
	d.begin(0, plainly, 8192)
	d.wantSay(0, readBytes(1, 0, 4096), readBytes(2, 4096, 4096))
	d.hear(0, plainly.read(1, 0, many(4096, 0)))
	d.lost(1)
	d.wantSay(1)
	d.begin(1, form{}, 8192)
	d.wantSay(1, writeBytes(1, 0, many(4096, 0)))
}

// P23.7: an errand that comes up while its side is gone waits; those of lesser chunks are asked first.
func TestErrandsThatWait(t *testing.T) {
	d := working(t, "waiting writes", aPlan(), plainly, 8192)
	d.say(0)
	d.lost(1)
	d.hear(0, plainly.read(2, 4096, many(4096, 7)))
	d.hear(0, plainly.read(1, 0, many(4096, 3)))
	d.wantSay(1)
	d.chooses(1, form{})
	d.wantSay(1)
	d.hear(1, startBytes(8192))
	d.wantSay(1, writeBytes(1, 0, many(4096, 3)), writeBytes(2, 4096, many(4096, 7)))

	// One was never asked: its first asking is the first of its tries.
	plan := aPlan()
	plan.Tries = 1
	d = working(t, "the first asking", plan, plainly, 4096)
	d.lost(1)
	d.hear(0, plainly.read(1, 0, many(4096, 3)))
	d.begin(1, form{}, 4096)
	d.hear(1, simpleBytes(5, 1))
	d.wantState(api.CopyState{Phase: api.CopyFailed, Size: 4096, Side: 1, Code: 5})

	// The flush waits, too.
	d = written(t, "a waiting flush")
	d.hear(1, simpleBytes(0, 1))
	d.lost(1)
	d.begin(1, form{}, 8192)
	d.wantSay(1, writeBytes(1, 0, many(4096, 0)))
	d.hear(1, simpleBytes(0, 1))
	d.lost(1)
	d.wantSay(1)
	d.begin(1, form{}, 8192)
	d.wantSay(1, flushBytes(1))
	d.hear(1, simpleBytes(0, 1))
	d.wantState(done())
}

// P23.7: errands of one connection that came up in any order are asked again by rising chunks, beside new ones.
func TestOrderOfAskingAgain(t *testing.T) {
	plan := aPlan()
	plan.Flight = 4
	d := working(t, "the order", plan, telling, 20480)
	d.wantSay(0, statusBytes(1, 0, 4096), statusBytes(2, 4096, 4096), statusBytes(3, 8192, 4096), statusBytes(4, 12288, 4096))
	d.hear(0, telling.status(4, []run{{4096, 2}}, nil), telling.status(2, []run{{4096, 0}}, nil), telling.status(1, []run{{4096, 0}}, nil))
	d.wantSay(0, readBytes(5, 4096, 4096), readBytes(6, 0, 4096))
	d.hear(1, simpleBytes(0, 1))
	d.wantSay(0, statusBytes(7, 16384, 4096))
	d.lost(0)
	d.begin(0, telling, 20480)
	d.wantSay(0, readBytes(1, 0, 4096), readBytes(2, 4096, 4096), statusBytes(3, 8192, 4096), statusBytes(4, 16384, 4096))
}

// P23.4, P23.7: a chunk that is begun while the source is gone, or has not told holes yet, is read as a whole: nothing is noted of it. Once holes are noted a status waits.
func TestChunksBegunWithoutASource(t *testing.T) {
	begin := func(what string, plan api.CopyPlan, again func(d *desk)) *desk {
		d := working(t, what, plan, both, 12288)
		d.hear(0, both.status(1, []run{{4096, 2}}, []run{{4096, 1}}))
		d.say(0)
		d.lost(0)
		again(d)
		d.hear(1, simpleBytes(0, 1))
		d.wantSay(1, zeroBytes(1, 0, 4096))
		d.wantSay(0)
		return d
	}
	for _, plan := range []api.CopyPlan{aPlan(), dirtyPlan()} {
		d := begin("gone", plan, func(*desk) {})
		d.begin(0, both, 12288)
		d.wantSay(0, statusBytes(1, 4096, 4096), readBytes(2, 8192, 4096))

		d = begin("on its way", plan, func(d *desk) {
			d.hear(0, greetingBytes(3))
			d.hear(0, ackBytes(8))
			d.say(0)
		})
		d.hear(0, both.contexts())
		d.wantSay(0, goBytes("a"))
		d.hear(0, startBytes(12288))
		d.wantSay(0, statusBytes(1, 4096, 4096), readBytes(2, 8192, 4096))

		d = begin("told, and not begun", plan, func(d *desk) { d.chooses(0, both) })
		d.hear(0, startBytes(12288))
		d.wantSay(0, statusBytes(1, 4096, 4096), statusBytes(2, 8192, 4096))
	}
}

// P23.3, P23.7: what a side must have when it begins again: the source its size, and its marks; the target enough bytes. In the flush, too.
func TestBeginningAgain(t *testing.T) {
	for _, x := range []struct {
		what  string
		side  int
		plan  api.CopyPlan
		f     form
		size  uint64
		fails bool
	}{
		{"the same source", 0, aPlan(), both, 8192, false},
		{"a lesser source", 0, aPlan(), both, 8191, true},
		{"a greater source", 0, aPlan(), both, 8193, true},
		{"a source of no bytes", 0, aPlan(), both, 0, true},
		{"a source that tells less", 0, aPlan(), plainly, 8192, false},
		{"the same source, with marks", 0, dirtyPlan(), both, 8192, false},
		{"a source with marks alone", 0, dirtyPlan(), marking, 8192, false},
		{"a source without marks", 0, dirtyPlan(), telling, 8192, true},
		{"a source without contexts", 0, dirtyPlan(), bare, 8192, true},
		{"a source that refuses contexts", 0, dirtyPlan(), refusal, 8192, true},
		{"a source without chunks", 0, dirtyPlan(), plainly, 8192, true},
		{"a greater source, with marks", 0, dirtyPlan(), both, 8193, true},
		{"the same target", 1, aPlan(), form{}, 8192, false},
		{"a greater target", 1, aPlan(), form{}, 8193, false},
		{"the greatest target", 1, aPlan(), form{}, max64, false},
		{"a lesser target", 1, aPlan(), form{}, 8191, true},
		{"a target of no bytes", 1, dirtyPlan(), form{}, 0, true},
	} {
		for _, flush := range []bool{false, true} {
			d := working(t, fmt.Sprintf("%s, flush %v", x.what, flush), x.plan, both, 8192)
			d.hear(0, both.status(1, []run{{4096, 2}}, []run{{4096, 1}}), both.status(2, []run{{4096, 2}}, []run{{4096, 1}}))
			if flush {
				d.hear(1, simpleBytes(0, 1), simpleBytes(0, 2))
			}
			d.say(0)
			d.say(1)
			before := d.c.State()
			d.lost(x.side)
			d.wantState(before)
			d.chooses(x.side, x.f)
			d.wantState(before)
			d.hear(x.side, startBytes(x.size))
			if x.fails {
				d.wantFailed(before, x.side, 0, 0)
				continue
			}
			d.wantState(before)
			want(t, d.what+": the phase", before.Phase, map[bool]api.CopyPhase{false: api.CopyWork, true: api.CopyFlush}[flush])
		}
	}
}

// P23.3, P23.7: a side that begins again may be refused, or break.
func TestRefusedAgain(t *testing.T) {
	for side := range 2 {
		d := written(t, fmt.Sprint("refused again, side ", side))
		d.lost(side)
		d.chooses(side, telling)
		d.hear(side, replyBytes(7, api.RepUnknown))
		d.wantFailed(api.CopyState{Size: 8192}, side, 0, 0)
		d = written(t, fmt.Sprint("broken again, side ", side))
		d.lost(side)
		d.hear(side, greetingBytes(3))
		d.say(side)
		d.hear(side, many(40, 0))
		d.wantFailed(api.CopyState{Size: 8192}, side, 0, 0)
	}
}

// P23.7: what was read and not written is kept over any losses of the target, whatever the source tells meanwhile.
func TestReadAndNotWritten(t *testing.T) {
	d := written(t, "kept")
	for range 3 {
		d.lost(1)
		d.lost(0)
		d.begin(0, plainly, 8192)
		d.wantSay(0)
		d.begin(1, form{}, 9000)
		d.wantSay(1, writeBytes(1, 0, many(4096, 0)), zeroBytes(2, 4096, 4096))
	}
	d.wantState(api.CopyState{Phase: api.CopyWork, Size: 8192})
}

// P23.7: a part of a chunk that is done is not done again.
func TestPartsThatAreDone(t *testing.T) {
	d := working(t, "parts", aPlan(), telling, 4096)
	d.hear(0, telling.status(1, []run{{1024, 2}, {1024, 0}, {2048, 2}}, nil))
	d.hear(1, simpleBytes(0, 1))
	d.hear(0, telling.read(2, 1024, many(1024, 0)))
	d.hear(1, simpleBytes(0, 2))
	d.lost(0)
	d.lost(1)
	d.begin(0, telling, 4096)
	d.wantSay(0)
	d.begin(1, form{}, 4096)
	d.wantSay(1, zeroBytes(1, 2048, 2048))
	d.hear(1, simpleBytes(0, 1))
	d.wantState(api.CopyState{Phase: api.CopyFlush, Size: 4096, Done: 4096, Copied: 1024, Zeroed: 3072})
}
