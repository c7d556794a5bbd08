package mirror_test

import (
	"fmt"
	"testing"

	"spindle/api"
)

// drops are the ways in which a member is dropped while it is asked something with a cookie.
var drops = map[string]func(d *desk, k int, cookie uint64){
	"lost":     func(d *desk, k int, _ uint64) { d.lost(k) },
	"broken":   func(d *desk, k int, _ uint64) { d.hear(k, many(40, 0)) },
	"an error": func(d *desk, k int, cookie uint64) { d.hear(k, simpleBytes(5, cookie)) },
}

// P24.6: a read goes on to the whole member with the least number that is left then, be it one that was not there when the read began; it ends, if there is none.
func TestReadersDropped(t *testing.T) {
	for what, drop := range drops {
		d := opened(t, what, 4)
		d.read(300, 4)
		d.wantSay(0, readBytes(1, 300, 4))
		d.lost(1) // one that was not asked
		d.wantQuiet()
		drop(d, 0, 1)
		d.wantStates("ooww")
		d.wantSay(2, readBytes(1, 300, 4))
		d.wantQuiet(2)
		d.opens(1)
		d.chooses(0)
		d.wantStates("jwww")
		d.wantQuiet()
		drop(d, 2, 1)
		d.wantSay(1, readBytes(1, 300, 4))
		d.wantQuiet(1)
		d.hear(0, startBytes(4096))
		d.wantStates("wwow")
		drop(d, 1, 1)
		d.wantSay(0, readBytes(1, 300, 4))
		d.wantQuiet(0)
		drop(d, 0, 1)
		d.wantSay(3, readBytes(1, 300, 4))
		d.wantDone()
		d.wantWaiting(1, -1)
		drop(d, 3, 1)
		d.wantDone(wentWrong(1))
		d.wantWaiting(0, -1)
		for k := range 4 {
			d.wantMissed(k)
		}
	}
}

// P24.6: a read is not asked of a stale member, nor of one that joins.
func TestNoReaderIsLeft(t *testing.T) {
	for what, drop := range drops {
		s := setStage(t, "swjo")
		s.read(300, 4)
		s.end()
		s.wantSay(1, bytesOf("Read", s.cookies[1]))
		drop(s.desk, 1, s.cookies[1])
		s.what = what
		s.wantStates("sojo")
		s.wantDone(wentWrong(2))
		s.wantQuiet()
		s.wantMissed(1)
	}
}

// P24.6: where a read has ended with its last reader, what waits behind it ends, too, or finds those that came.
func TestWhatWaitsBehindADrop(t *testing.T) {
	for _, first := range kinds {
		for _, second := range kinds {
			for what, drop := range drops {
				d := opened(t, fmt.Sprint(first, ", then ", second, ", ", what), 1)
				d.do(first)
				d.do(second)
				d.say(0)
				drop(d, 0, 1)
				d.wantDone(wentWrong(1), wentWrong(2))
				d.wantWaiting(0, -1)
				if first == "Write" || first == "Zero" {
					d.wantMissed(0, 300, 304)
				} else {
					d.wantMissed(0)
				}
			}
		}
	}
}

// P24.6: one that was not asked for the operation in work is dropped, and nothing comes of it, whichever state it is in.
func TestDroppedWithoutBeingAsked(t *testing.T) {
	for _, kind := range kinds {
		for _, joined := range []bool{false, true} {
			d := opened(t, fmt.Sprint(kind, ", joined ", joined), 3)
			d.lost(2)
			d.do(kind)
			d.chooses(2)
			if joined {
				d.hear(2, startBytes(4096))
			}
			d.lost(2)
			if kind == "Write" || kind == "Zero" {
				d.wantMissed(2, 300, 304)
			} else {
				d.wantMissed(2)
			}
			d.wantDone()
			d.wantWaiting(1, -1)
			d.wantSay(0, bytesOf(kind, 1))
			d.settle()
			d.wantStates("wwo")
		}
	}
}

// P24.6: one that was dropped is not asked again when it comes back, and what it is told of its former client's requests breaks the new one; it misses what it has not answered.
func TestBackWhileInWork(t *testing.T) {
	for _, kind := range kinds[1:] {
		d := opened(t, kind, 3)
		d.do(kind)
		d.say(1)
		d.lost(1)
		d.opens(1)
		d.wantQuiet(0, 2)
		d.hear(1, well(1))
		d.wantStates("wow")
		d.opens(1)
		d.wantSay(0, bytesOf(kind, 1))
		d.wantSay(2, bytesOf(kind, 1))
		d.hear(0, well(1))
		d.wantDone()
		d.hear(2, well(1))
		d.wantDone(wentWell(1))
		if kind == "Flush" {
			d.wantStates("www")
			d.wantQuiet()
			continue
		}
		d.wantStates("wsw")
		d.wantWaiting(0, 1)
		d.wantSay(0, readBytes(2, 300, 4))
	}
}

// P24.6: one that has answered well has answered well, though it was dropped, and came back, while the operation was still in work: it misses nothing, and is whole.
func TestDroppedBehindItsAnswer(t *testing.T) {
	for _, kind := range kinds[1:] {
		for _, other := range []string{"well", "lost"} {
			d := opened(t, kind+", the other one "+other, 2)
			d.do(kind)
			d.say(1)
			d.say(0)
			d.hear(0, well(1))
			d.lost(0)
			d.wantMissed(0)
			d.opens(0)
			d.wantStates("ww")
			d.wantDone()
			if other == "well" {
				d.hear(1, well(1))
				d.wantStates("ww")
				d.wantMissed(1)
			} else {
				d.lost(1)
				d.wantStates("wo")
			}
			d.wantDone(wentWell(1))
			d.wantQuiet()
		}
	}
}

// P24.6: a stale one that answers well does not make an operation go well, be it the only one that is left; a flush may find another whole one meanwhile, and goes wrong all the same (P24.10).
func TestOnlyAStaleOneAnswersWell(t *testing.T) {
	for _, kind := range kinds[1:] {
		s := setStage(t, "wsj")
		s.do(kind)
		s.end()
		s.say(0)
		s.say(1)
		s.hear(1, well(s.cookies[1]))
		s.wantDone()
		s.lost(0)
		s.wantDone(wentWrong(2))
		s.wantStates("osj")
		s.wantMissed(1)
		if kind == "Flush" {
			s.wantMissed(0)
		} else {
			s.wantMissed(0, 300, 304)
		}
	}

	d := opened(t, "a flush that finds another whole one", 2)
	d.lost(1)
	d.flush()
	d.opens(1)
	d.wantStates("ww")
	d.lost(0)
	d.wantDone(wentWrong(1))
	d.wantStates("ow")
	d.flush()
	d.wantSay(1, flushBytes(1))
	d.hear(1, well(1))
	d.wantDone(wentWell(2))
}

// P24.6: what a stale member that is dropped in work has missed it goes on missing, with the range.
func TestStaleOneDropped(t *testing.T) {
	for what, drop := range drops {
		d := lacking(t, what, 2, 100, 200, 301, 303)
		d.opens(1)
		d.write(300, []byte("data"))
		d.say(0)
		d.hear(0, well(3, many(100, 0)...))
		d.say(1)
		d.hear(1, well(1))
		d.wantMissed(1, 301, 303)
		d.say(1)
		drop(d, 1, 2)
		d.wantMissed(1, 300, 304)
		d.wantDone()
		d.hear(0, well(4))
		d.wantDone(wentWell(2 + 1))
		d.wantStates("wo")
		d.wantMissed(0)
	}
}

// P24.6: with a mirror of one member all depends on it.
func TestAlone(t *testing.T) {
	for what, drop := range drops {
		d := opened(t, what, 1)
		for n, kind := range kinds {
			d.do(kind)
			answer, told := answerTo(kind, uint64(n+1))
			d.hear(0, answer)
			d.wantDone(api.MirrorDone{ID: n + 1, Data: told})
		}
		d.write(0, []byte("x"))
		drop(d, 0, 5)
		d.wantDone(wentWrong(5))
		d.wantMissed(0, 0, 1)
		d.opens(0)
		d.wantStates("s")
		d.wantWaiting(0, -1)
		d.wantQuiet()
		d.read(0, 1)
		d.wantDone(wentWrong(6))
		want(t, what+": Trust", d.trust(0), api.OK)
		d.wantStates("w")
		d.wantMissed(0)
		d.read(0, 1)
		d.wantSay(0, readBytes(1, 0, 1))
	}
}
