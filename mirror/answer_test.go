package mirror_test

import (
	"fmt"
	"slices"
	"strings"
	"testing"

	"spindle/api"
)

// codes are errors of the wire, and numbers that are none.
var codes = []uint32{1, 5, 12, 22, 28, 75, 95, 108, 2, 1<<31 + 1, 1<<32 - 1}

// P24.5: a read that is answered well has ended, with its bytes.
func TestGoodRead(t *testing.T) {
	for _, n := range []int{1, 2, 511, 1023, 1024} {
		d := opened(t, fmt.Sprint("a read of ", n), 2)
		d.read(uint64(4096-n), uint32(n))
		d.wantSay(0, readBytes(1, uint64(4096-n), uint64(n)))
		b := well(1, many(n, n)...)
		d.hear(0, b[:len(b)-1])
		d.wantDone()
		d.hear(0, b[len(b)-1:])
		d.wantDone(api.MirrorDone{ID: 1, Data: many(n, n)})
		d.wantStates("ww")
		d.wantQuiet()
	}
}

// P24.5, P24.6: a read that is answered with an error, whatever it is, drops the member, and asks the next one.
func TestBadRead(t *testing.T) {
	for _, code := range codes {
		d := opened(t, fmt.Sprint("code ", code), 3)
		d.read(7, 9)
		for k, states := range []string{"oww", "oow"} {
			d.wantSay(k, readBytes(1, 7, 9))
			d.wantQuiet(k)
			d.hear(k, simpleBytes(code, 1))
			d.wantStates(states)
			d.wantMissed(k)
			d.wantDone()
		}
		d.wantSay(2, readBytes(1, 7, 9))
		d.hear(2, simpleBytes(code, 1))
		d.wantStates("ooo")
		d.wantDone(wentWrong(1))
		d.wantWaiting(0, -1)
	}
}

// P24.5: an answer with an error to a write, zero or flush drops the member; what the others say goes on counting.
func TestBadChange(t *testing.T) {
	for _, kind := range kinds[1:] {
		for _, code := range codes {
			d := opened(t, fmt.Sprint(kind, ", code ", code), 3)
			d.do(kind)
			d.hear(1, simpleBytes(code, 1))
			d.wantStates("wow")
			d.wantSay(1)
			if kind == "Flush" {
				d.wantMissed(1)
			} else {
				d.wantMissed(1, 300, 304)
			}
			d.hear(2, well(1))
			d.wantDone()
			d.hear(0, well(1))
			d.wantDone(wentWell(1))
			d.wantMissed(0)
			d.wantMissed(2)
		}
	}
}

// P24.5: with a good answer a stale member misses the range no more, be it all that it misses or a part: it stays stale until it was flushed, whatever else was flushed.
func TestStaleMemberIsToldAll(t *testing.T) {
	for _, x := range []struct {
		kind     string
		off, n   uint64
		ends     []int64
		nothing  bool
		flushing bool
	}{
		{kind: "Write", off: 2000, n: 100, nothing: true},
		{kind: "Write", off: 1950, n: 200, nothing: true},
		{kind: "Zero", off: 0, n: 4096, nothing: true},
		{kind: "Write", off: 2000, n: 99, ends: []int64{2099, 2100}},
		{kind: "Write", off: 2001, n: 99, ends: []int64{2000, 2001}},
		{kind: "Zero", off: 2010, n: 10, ends: []int64{2000, 2010, 2020, 2100}},
		{kind: "Zero", off: 2100, n: 10, ends: []int64{2000, 2100}},
		{kind: "Write", off: 1000, n: 1000, ends: []int64{2000, 2100}},
	} {
		d := lacking(t, fmt.Sprintf("%s of %d from %d on", x.kind, x.n, x.off), 2, 0, 10, 2000, 2100)
		d.opens(1)
		d.call(x.kind, x.off, uint32(x.n))
		d.flush()
		d.say(0)
		d.hear(0, well(3, many(10, 0)...))
		d.hear(1, well(1))
		d.wantWaiting(2, -1) // the copying has ended, the operation has begun
		d.hear(1, well(2))
		d.wantMissed(1, x.ends...)
		d.wantDone()
		d.hear(0, well(4))
		d.wantDone(wentWell(3))
		d.wantStates("ws")
		d.say(0)
		d.say(1)
		d.hear(0, well(5))
		d.hear(1, well(3))
		d.wantDone(wentWell(4))
		d.wantStates("ws")
		d.wantMissed(1, x.ends...)
		d.wantWaiting(0, 1)
		if x.nothing {
			d.wantSay(0)
			d.wantSay(1, flushBytes(4))
			d.hear(1, well(4))
			d.wantStates("ww")
		} else {
			d.wantSay(1)
			d.wantSay(0, readBytes(6, uint64(x.ends[0]), uint64(x.ends[1]-x.ends[0])))
		}
	}
}

// P24.5: answers come in whatever order, and are told apart by member and cookie.
func TestOrderOfAnswers(t *testing.T) {
	for _, order := range permutations(4) {
		d := opened(t, fmt.Sprint("in the order ", order), 4)
		d.read(0, 1)
		d.hear(0, well(1, 'r'))
		d.wantDone(api.MirrorDone{ID: 1, Data: []byte("r")})
		d.write(3, []byte("xyz"))
		for i, k := range order {
			d.wantDone()
			cookie := uint64(1)
			if k == 0 {
				cookie = 2
			}
			d.hear(k, well(cookie))
			d.wantWaiting(b2i(i < 3), -1)
		}
		d.wantDone(wentWell(2))
	}
}

func b2i(b bool) int {
	if b {
		return 1
	}
	return 0
}

// permutations are all orders of the numbers below n.
func permutations(n int) [][]int {
	list := [][]int{nil}
	for k := range n {
		var more [][]int
		for _, l := range list {
			for at := range k + 1 {
				more = append(more, slices.Insert(slices.Clone(l), at, k))
			}
		}
		list = more
	}
	return list
}

// waysOut are the ways in which a member can come out of what it was asked: it answers well, or with an error; it breaks, or is lost; or it is lost behind a good answer.
const waysOut = "webla"

// words are all words of n letters.
func words(letters string, n int) []string {
	list := []string{""}
	for range n {
		var more []string
		for _, s := range list {
			for _, c := range letters {
				more = append(more, s+string(c))
			}
		}
		list = more
	}
	return list
}

// P24.5, P24.6: every way in which a write, zero or flush can come out of up to three members, whole or stale, in every order. It ends with the last of them, well if one that was whole has answered well; those that have not answered well miss its range.
func TestEveryWayOut(t *testing.T) {
	for members := 1; members <= 3; members++ {
		for _, letters := range words("ws", members) {
			if !strings.Contains(letters, "w") {
				continue
			}
			for n, out := range words(waysOut, members) {
				for i, order := range permutations(members) {
					tryWayOut(t, letters, out, kinds[1+(n+i)%3], order)
				}
			}
		}
	}
}

// tryWayOut lets an operation be in work, and the members come out of it in an order.
func tryWayOut(t *testing.T, letters, out, kind string, order []int) {
	t.Helper()
	s := setStage(t, letters)
	s.what = fmt.Sprintf("%s of %s, out %s in the order %v", kind, letters, out, order)
	s.do(kind)
	s.end()
	good := false
	for i, k := range order {
		missed := slices.Clone(s.m.Look().Missed[k])
		s.comeOut(k, out[k], i < len(order)-1)
		answered := out[k] == 'w' || out[k] == 'a'
		good = good || answered && letters[k] == 'w'
		switch {
		case i < len(order)-1:
			s.wantWaiting(1, -1)
			s.wantDone()
		case good:
			s.wantDone(wentWell(2))
		default:
			s.wantDone(wentWrong(2))
		}
		if !answered && kind != "Flush" {
			missed = append(missed, api.Range{Lo: 300, Hi: 304})
		}
		wantSame(t, s.what+": what it misses", s.m.Look().Missed[k], missed)
	}
	s.failed()
}

// comeOut lets a member come out of what it was asked; it is lost behind a good answer only if the operation is still in work.
func (s *stage) comeOut(k int, way byte, still bool) {
	s.t.Helper()
	switch way {
	case 'w', 'a':
		s.hear(k, well(s.cookies[k]))
		if way == 'w' || !still {
			return
		}
		s.lost(k)
	case 'e':
		s.hear(k, simpleBytes(28, s.cookies[k]))
	case 'b':
		s.hear(k, many(40, 0))
	case 'l':
		s.lost(k)
	}
	want(s.t, s.what+": the state", s.m.Look().Members[k], api.MemberOut)
}
