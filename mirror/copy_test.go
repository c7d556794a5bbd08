package mirror_test

import (
	"fmt"
	"testing"

	"spindle/api"
)

// P24.7: range by range, and of each at most a chunk at a time, the first one first; then a flush; then it is whole.
func TestChunksThatAreCopied(t *testing.T) {
	for _, x := range []struct {
		ends   []int64
		pieces [][2]uint64 // place and length
	}{
		{[]int64{0, 1}, [][2]uint64{{0, 1}}},
		{[]int64{5, 1029}, [][2]uint64{{5, 1024}}},
		{[]int64{5, 1030}, [][2]uint64{{5, 1024}, {1029, 1}}},
		{[]int64{0, 2500}, [][2]uint64{{0, 1024}, {1024, 1024}, {2048, 452}}},
		{[]int64{0, 4096}, [][2]uint64{{0, 1024}, {1024, 1024}, {2048, 1024}, {3072, 1024}}},
		{[]int64{10, 20, 30, 40, 1000, 2100, 4095, 4096}, [][2]uint64{{10, 10}, {30, 10}, {1000, 1024}, {2024, 76}, {4095, 1}}},
	} {
		d := lacking(t, fmt.Sprint("missing ", x.ends), 2, x.ends...)
		d.opens(1)
		first := d.say(0)
		ask := requestsIn(t, first)[0].Cookie
		wantBytes(t, d.what, first, readBytes(ask, x.pieces[0][0], x.pieces[0][1]))
		for n, p := range x.pieces {
			if n > 0 {
				d.wantSay(0, readBytes(ask, p[0], p[1]))
			}
			d.wantSay(1)
			d.wantWaiting(0, 1)
			d.hear(0, well(ask, many(int(p[1]), n)...))
			d.wantSay(1, writeBytes(uint64(n+1), p[0], many(int(p[1]), n)))
			d.wantSay(0)
			want(t, "it misses the bytes yet", d.m.Look().Missed[1][0].Lo, int64(p[0]))
			d.hear(1, well(uint64(n+1)))
			ask++
		}
		d.wantMissed(1)
		d.wantStates("ws")
		d.wantWaiting(0, 1)
		d.wantSay(0)
		d.wantSay(1, flushBytes(uint64(len(x.pieces)+1)))
		d.hear(1, well(uint64(len(x.pieces)+1)))
		d.wantStates("ww")
		d.wantWaiting(0, -1)
		d.wantQuiet()
		d.wantDone()
	}
}

// P24.7: from the whole member with the least number, to the stale one with the least number; who comes meanwhile is looked at for the next piece.
func TestWhoIsCopiedToWhom(t *testing.T) {
	d := opened(t, "four members", 4)
	for _, k := range []int{0, 1, 3} {
		d.lost(k)
	}
	d.write(0, []byte("ab"))
	d.write(9, []byte("c"))
	d.settle()
	d.opens(3)
	d.wantSay(2, readBytes(3, 0, 2))
	d.opens(1)
	d.wantStates("osws")
	d.wantWaiting(0, 3)
	d.hear(2, well(3, 'a', 'b'))
	d.wantSay(3, writeBytes(1, 0, []byte("ab")))
	d.hear(3, well(1))
	d.wantMissed(3, 9, 10)

	d.wantWaiting(0, 1)
	d.wantSay(2, readBytes(4, 0, 2))
	d.opens(0)
	d.hear(2, well(4, 'a', 'b'))
	d.wantSay(1, writeBytes(1, 0, []byte("ab")))
	d.hear(1, well(1))

	for n := range uint64(2) {
		at := []uint64{0, 9}[n]
		d.wantWaiting(0, 0)
		d.wantSay(2, readBytes(5+n, at, 2-n))
		d.hear(2, well(5+n, many(int(2-n), 0)...))
		d.wantSay(0, writeBytes(1+n, at, many(int(2-n), 0)))
		d.hear(0, well(1+n))
	}
	d.wantSay(0, flushBytes(3))
	d.wantQuiet()
	d.hear(0, well(3))
	d.wantStates("wsws")

	d.wantWaiting(0, 1)
	d.wantSay(0, readBytes(4, 9, 1)) // it is a whole one by now, and the least
	d.wantQuiet()
	d.hear(0, well(4, 'c'))
	d.settle()
	d.wantStates("wwww")
}

// P24.7: operations that come while something is copied wait until it has ended, and come first then; behind them the copying goes on.
func TestOperationsThatComeMeanwhile(t *testing.T) {
	for _, kind := range kinds {
		for step := range 3 {
			d := lacking(t, fmt.Sprint(kind, " at step ", step), 2, 0, 2, 1000, 1001)
			d.opens(1)
			cookies := []uint64{3, 1}
			d.wantSay(0, readBytes(3, 0, 2))
			if step == 0 {
				d.do(kind)
			}
			d.wantQuiet()
			d.hear(0, well(3, 'a', 'b'))
			cookies[0]++
			d.wantSay(1, writeBytes(1, 0, []byte("ab")))
			if step == 1 {
				d.do(kind)
			}
			d.wantQuiet()
			d.wantWaiting(b2i(step < 2), 1)
			d.hear(1, well(1))
			cookies[1]++
			if step == 2 {
				d.wantSay(0, readBytes(4, 1000, 1))
				d.do(kind)
				d.wantQuiet()
				d.hear(0, well(4, 'c'))
				d.wantSay(1, writeBytes(2, 1000, []byte("c")))
				d.wantWaiting(1, 1)
				d.hear(1, well(2))
				cookies[0]++
				cookies[1]++
			}
			d.wantWaiting(1, -1)
			d.answersAll(kind, cookies, 3)
			d.wantWaiting(0, 1)
			if step == 2 {
				d.wantSay(1, flushBytes(cookies[1]))
				d.hear(1, well(cookies[1]))
			} else {
				d.wantSay(0, readBytes(cookies[0], 1000, 1))
				d.hear(0, well(cookies[0], 'c'))
			}
			d.settle()
			d.wantStates("ww")
		}
	}
}

// answersAll looks that an operation is asked of the first two members, a read of the first one, and answers it well.
func (d *desk) answersAll(kind string, cookies []uint64, id int) {
	d.t.Helper()
	answer, told := answerTo(kind, cookies[0])
	d.wantSay(0, bytesOf(kind, cookies[0]))
	if kind != "Read" {
		d.wantSay(1, bytesOf(kind, cookies[1]))
		d.hear(1, well(cookies[1]))
		cookies[1]++
	}
	d.wantSay(1)
	d.wantDone()
	d.hear(0, answer)
	cookies[0]++
	d.wantDone(api.MirrorDone{ID: id, Data: told})
}

// P24.7: while a flush is outstanding operations wait, too; behind it they find the member whole.
func TestOperationsBehindAFlush(t *testing.T) {
	for _, kind := range kinds {
		d := flushing(t, kind)
		d.do(kind)
		d.wantQuiet()
		d.wantWaiting(1, 2)
		d.lost(0)
		d.lost(1)
		d.wantWaiting(1, 2)
		d.wantDone()
		d.hear(2, well(2))
		d.wantStates("oow")
		d.wantWaiting(1, -1)
		d.wantSay(2, bytesOf(kind, 3))
		answer, told := answerTo(kind, 3)
		d.hear(2, answer)
		d.wantDone(api.MirrorDone{ID: 2, Data: told})
	}
}

// P24.7: whoever of the two is dropped breaks the copying off, whatever was asked: it begins anew with those that are left, and the range is missed yet.
func TestCopyingBrokenOff(t *testing.T) {
	for what, drop := range drops {
		for _, step := range []string{"read", "write"} {
			for _, who := range []string{"source", "target"} {
				if what == "an error" && (step == "read") != (who == "source") {
					continue // it was not asked
				}
				d := lacking(t, fmt.Sprint(who, " ", what, " at the ", step), 3, 0, 2)
				d.opens(2)
				d.wantSay(0, readBytes(2, 0, 2))
				if step == "write" {
					d.hear(0, well(2, 'a', 'b'))
					d.wantSay(2, writeBytes(1, 0, []byte("ab")))
				}
				if who == "target" {
					drop(d, 2, 1)
					d.wantStates("wwo")
					d.wantWaiting(0, -1)
					d.wantQuiet()
				} else {
					drop(d, 0, 2)
					d.wantStates("ows")
					d.wantWaiting(0, 2)
					d.wantSay(1, readBytes(2, 0, 2))
					d.wantQuiet()
				}
				d.wantMissed(2, 0, 2)
				d.wantMissed(0)
				d.wantMissed(1)
			}
		}
	}
}

// P24.7: where the source was the last whole one nothing is copied any more; what waits ends.
func TestLastSourceDropped(t *testing.T) {
	for what, drop := range drops {
		for _, kind := range kinds {
			d := lacking(t, kind+", the source "+what, 2, 0, 2)
			d.opens(1)
			d.do(kind)
			d.say(0)
			drop(d, 0, 2)
			d.wantStates("os")
			d.wantWaiting(0, -1)
			d.wantDone(wentWrong(2))
			d.wantMissed(1, 0, 2)
			d.wantMissed(0)
			d.wantQuiet()
			d.opens(0)
			d.wantStates("ws")
			d.wantWaiting(0, 1)
			d.wantSay(0, readBytes(1, 0, 2))
			d.hear(0, well(1, 'a', 'b'))
			d.settle()
			d.wantStates("ww")
		}
	}
}

// P24.7: other members that are dropped, or come, do not break a copying off.
func TestOthersWhileCopying(t *testing.T) {
	d := opened(t, "others", 4)
	d.lost(2)
	d.write(0, []byte("ab"))
	d.settle()
	d.opens(2)
	d.wantSay(0, readBytes(2, 0, 2))
	d.lost(1)
	d.wantWaiting(0, 2)
	d.opens(1)
	d.hear(0, well(2, 'a', 'b'))
	d.lost(3)
	d.wantWaiting(0, 2)
	d.wantSay(2, writeBytes(1, 0, []byte("ab")))
	d.hear(3) // it is out
	d.hear(1, many(40, 0))
	d.wantStates("woso")
	d.wantWaiting(0, 2)
	d.hear(2, well(1))
	d.wantSay(2, flushBytes(2))
	d.opens(3)
	d.lost(0)
	d.wantWaiting(0, 2)
	d.lost(3)
	d.wantStates("ooso")
	d.wantWaiting(0, 2)
	d.hear(2, well(2))
	d.wantStates("oowo")
	d.wantWaiting(0, -1)
}

// P24.7: what is still answered for a copying that has ended leads to nothing, be it well or an error; not even when the next copying, or an operation, is under way.
func TestLateAnswers(t *testing.T) {
	for _, code := range []uint32{0, 5} {
		for _, next := range []string{"nothing", "a copying", "an operation"} {
			d := lacking(t, fmt.Sprint("the target's, code ", code, ", then ", next), 3, 0, 2)
			d.opens(2)
			d.hear(0, well(2, 'a', 'b'))
			d.say(2)
			if next == "nothing" {
				d.lost(1)
			}
			if next == "an operation" {
				d.write(0, []byte("cd"))
			}
			d.lost(0)
			d.hear(2, simpleBytes(code, 1))
			want(t, d.what+": the state", d.m.Look().Members[2], api.MemberStale)
			d.wantMissed(2, 0, 2)
			if next == "nothing" {
				d.wantWaiting(0, -1)
				d.wantQuiet()
				continue
			}
			d.settle()
			d.wantStates("oww")
			d.wantMissed(2)

			d = lacking(t, fmt.Sprint("the source's, code ", code, ", then ", next), 3, 0, 2)
			d.opens(2)
			d.say(0)
			d.lost(2)
			if next == "a copying" {
				d.opens(2)
				d.wantSay(0, readBytes(3, 0, 2))
			} else {
				d.write(0, []byte("cd"))
			}
			d.hear(0, simpleBytes(code, 2, []byte("ab")[:2*b2i(code == 0)]...))
			want(t, d.what+": the state", d.m.Look().Members[0], api.MemberWhole)
			d.wantMissed(2, 0, 2)
			if next == "a copying" {
				d.wantSay(2)
				d.hear(0, well(3, 'e', 'f'))
				d.wantSay(2, writeBytes(1, 0, []byte("ef")))
			} else {
				d.wantSay(0, writeBytes(3, 0, []byte("cd")))
				d.wantDone()
			}
		}
	}
}

// P24.7: an operation that comes first behind a copying that was broken off, ahead of the answer to what was copied.
func TestWriteBehindABrokenCopying(t *testing.T) {
	d := lacking(t, "a write behind it", 3, 0, 4)
	d.opens(2)
	d.hear(0, well(2, 'a', 'b', 'c', 'd'))
	d.wantSay(2, writeBytes(1, 0, []byte("abcd")))
	d.lost(0)
	d.wantSay(1, readBytes(2, 0, 4))
	d.lost(2)
	d.opens(2)
	d.write(1, []byte("x"))
	d.hear(1, well(2, 'a', 'b', 'c', 'd'))
	d.wantQuiet(1)
	d.wantSay(1, readBytes(3, 0, 4))
	d.hear(1, well(3, 'a', 'b', 'c', 'd'))
	d.wantSay(2, writeBytes(1, 0, []byte("abcd")))
	d.wantQuiet()
	d.hear(2, well(1))
	d.wantSay(1, writeBytes(4, 1, []byte("x")))
	d.wantSay(2, writeBytes(2, 1, []byte("x")))
	d.wantMissed(2)
	d.hear(2, well(2))
	d.hear(1, well(4))
	d.wantDone(wentWell(2))
	d.wantSay(2, flushBytes(3))
}

// P24.7: a flush that is answered with an error drops the member, which then misses nothing; it is broken off by nobody else.
func TestFlushBrokenOff(t *testing.T) {
	for what, drop := range drops {
		d := flushing(t, what)
		drop(d, 2, 2)
		d.wantStates("wwo")
		d.wantWaiting(0, -1)
		d.wantMissed(2)
		d.wantQuiet()
		d.opens(2)
		d.wantStates("www")

		d = flushing(t, "a whole one "+what)
		d.lost(0)
		if what != "an error" {
			drop(d, 1, 0)
		}
		d.wantWaiting(0, 2)
		d.hear(2, well(2))
		d.wantWaiting(0, -1)
		want(t, d.what+": the state", d.m.Look().Members[2], api.MemberWhole)
	}
}

// P24.7: a whole one that comes when there was none lets the copying begin; one that is stale does not.
func TestCopyingWaitsForAWholeOne(t *testing.T) {
	d := opened(t, "a whole one comes", 3)
	d.lost(1)
	d.lost(2)
	d.write(0, []byte("ab"))
	d.settle()
	d.lost(0)
	d.opens(2)
	d.opens(1)
	d.wantStates("oss")
	d.wantWaiting(0, -1)
	d.wantQuiet()
	d.opens(0)
	d.wantStates("wss")
	d.wantWaiting(0, 1)
	d.wantSay(0, readBytes(1, 0, 2))
	d.hear(0, well(1, 'a', 'b'))
	d.settle()
	d.wantStates("www")
}

// P24.7: a device at the greatest size, of which much is missed: the numbers do not wrap.
func TestGreatDevice(t *testing.T) {
	p := api.MirrorPlan{Members: 2, Name: "a", Size: 1 << 40, Chunk: 1 << 20}
	d := newDesk(t, "a great device", p)
	d.opens(0)
	d.zero(1<<40-1<<32, 1<<32-1)
	d.wantSay(0, zeroBytes(1, 1<<40-1<<32, 1<<32-1))
	d.hear(0, well(1))
	d.wantMissed(1, 1<<40-1<<32, 1<<40-1)
	d.write(1<<40-1, []byte("x"))
	d.settle()
	d.wantMissed(1, 1<<40-1<<32, 1<<40)
	d.opens(1)
	d.wantSay(0, readBytes(3, 1<<40-1<<32, 1<<20))
	d.hear(0, well(3, many(1<<20, 0)...))
	d.wantSay(1, writeBytes(1, 1<<40-1<<32, many(1<<20, 0)))
	d.hear(1, well(1))
	d.wantMissed(1, 1<<40-1<<32+1<<20, 1<<40)
	d.lost(0)
	want(t, "Trust", d.trust(1), api.OK)
	d.wantMissed(0, 0, 1<<40)
	d.wantMissed(1)
}
