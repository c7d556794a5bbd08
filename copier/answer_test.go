package copier_test

import (
	"fmt"
	"testing"

	"spindle/api"
)

// An errand is a point of a copy at which just one request is outstanding, and what becomes of it.
type errand struct {
	name   string
	side   int
	off    uint64
	reach  func(t *testing.T, what string, plan api.CopyPlan) *desk // the desk, with nothing in the mails
	again  func(cookie uint64) []byte                               // how it is asked with a cookie
	fails  func(cookie uint64, code uint32) []byte
	well   func(cookie uint64) []byte
	behind func(d *desk) // what is there to be seen when it was answered well
	cookie uint64        // its first one
}

// lonely is a plan of which one chunk is in work at a time.
func lonely(plan api.CopyPlan) api.CopyPlan {
	plan.Flight = 1
	return plan
}

// second gives a desk at whose second chunk the status was answered: 1000 bytes of it are to be zeroed, then the others copied.
func second(t *testing.T, what string, plan api.CopyPlan) *desk {
	t.Helper()
	d := statusOfSecond(t, what, plan)
	d.hear(0, telling.status(2, []run{{1000, 2}, {3096, 0}}, nil))
	d.wantSay(1, zeroBytes(2, 4096, 1000))
	return d
}

func statusOfSecond(t *testing.T, what string, plan api.CopyPlan) *desk {
	t.Helper()
	d := working(t, what, lonely(plan), telling, 8192)
	d.hear(0, telling.status(1, []run{{4096, 2}}, nil))
	d.wantSay(1, zeroBytes(1, 0, 4096))
	d.hear(1, simpleBytes(0, 1))
	d.wantSay(0, statusBytes(1, 0, 4096), statusBytes(2, 4096, 4096))
	return d
}

func readOfSecond(t *testing.T, what string, plan api.CopyPlan) *desk {
	t.Helper()
	d := second(t, what, plan)
	d.hear(1, simpleBytes(0, 2))
	d.wantSay(0, readBytes(3, 5096, 3096))
	return d
}

func writeOfSecond(t *testing.T, what string, plan api.CopyPlan) *desk {
	t.Helper()
	d := readOfSecond(t, what, plan)
	d.hear(0, telling.read(3, 5096, many(3096, 4)))
	d.wantSay(1, writeBytes(3, 5096, many(3096, 4)))
	return d
}

func flushOfSecond(t *testing.T, what string, plan api.CopyPlan) *desk {
	t.Helper()
	d := writeOfSecond(t, what, plan)
	d.hear(1, simpleBytes(0, 3))
	d.wantSay(1, flushBytes(4))
	return d
}

func errands() []errand {
	simple := func(cookie uint64) []byte { return simpleBytes(0, cookie) }
	fails := func(cookie uint64, code uint32) []byte { return simpleBytes(code, cookie) }
	data := many(3096, 4)
	return []errand{
		{"a status", 0, 4096, statusOfSecond, func(c uint64) []byte { return statusBytes(c, 4096, 4096) }, telling.fails,
			func(c uint64) []byte { return telling.status(c, []run{{4096, 2}}, nil) },
			func(d *desk) { d.wantSay(1, zeroBytes(2, 4096, 4096)) }, 2},
		{"zeroes", 1, 4096, second, func(c uint64) []byte { return zeroBytes(c, 4096, 1000) }, fails, simple,
			func(d *desk) { d.wantSay(0, readBytes(3, 5096, 3096)) }, 2},
		{"a read", 0, 5096, readOfSecond, func(c uint64) []byte { return readBytes(c, 5096, 3096) }, telling.fails,
			func(c uint64) []byte { return telling.read(c, 5096, data) },
			func(d *desk) { d.wantSay(1, writeBytes(3, 5096, data)) }, 3},
		{"a write", 1, 5096, writeOfSecond, func(c uint64) []byte { return writeBytes(c, 5096, data) }, fails, simple,
			func(d *desk) { want(d.t, d.what, d.c.State().Phase, api.CopyFlush) }, 3},
		{"a flush", 1, 0, flushOfSecond, flushBytes, fails, simple,
			func(d *desk) { want(d.t, d.what, d.c.State().Phase, api.CopyDone) }, 4},
	}
}

// P23.5: each kind of errand is asked up to Tries times, the same way, whatever the errors are; each asking again counts; the last error is the copy's.
func TestErrorsToTheEnd(t *testing.T) {
	for _, r := range errands() {
		for _, tries := range []int{1, 2, 3, 64} {
			plan := aPlan()
			plan.Tries = tries
			d := r.reach(t, fmt.Sprintf("%s, %d tries", r.name, tries), plan)
			s := d.c.State()
			for n := 1; n < tries; n++ {
				d.hear(r.side, r.fails(r.cookie+uint64(n)-1, uint32(n)))
				s.Again = n
				d.wantState(s)
				d.wantSay(r.side, r.again(r.cookie+uint64(n)))
				d.wantSay(1 - r.side)
			}
			d.hear(r.side, r.fails(r.cookie+uint64(tries)-1, 0xfffffff0))
			d.wantFailed(s, r.side, 0xfffffff0, r.off)
		}
	}
}

// P23.5: an errand that is answered well at its last asking goes on; the next errand has all its tries.
func TestErrorsAndThenWell(t *testing.T) {
	for _, r := range errands() {
		for failures := range 3 {
			d := r.reach(t, fmt.Sprintf("%s, %d errors", r.name, failures), aPlan())
			for n := range failures {
				d.hear(r.side, r.fails(r.cookie+uint64(n), 5))
				d.wantSay(r.side, r.again(r.cookie+uint64(n)+1))
			}
			d.hear(r.side, r.well(r.cookie+uint64(failures)))
			want(t, d.what+": Again", d.c.State().Again, failures)
			r.behind(d)
		}
	}
	plan := lonely(aPlan())
	plan.Tries = 2
	d := working(t, "tries of each", plan, telling, 4096)
	d.hear(0, telling.fails(1, 5))
	d.hear(0, telling.status(2, []run{{2048, 2}}, nil))
	d.hear(1, simpleBytes(28, 1))
	d.hear(1, simpleBytes(0, 2))
	d.hear(0, telling.fails(3, 22))
	d.hear(0, telling.read(4, 2048, many(2048, 0)))
	d.hear(1, simpleBytes(1, 3))
	d.hear(1, simpleBytes(0, 4))
	d.hear(1, simpleBytes(5, 5))
	d.wantState(api.CopyState{Phase: api.CopyFlush, Size: 4096, Done: 4096, Copied: 2048, Zeroed: 2048, Again: 5})
	d.wantSay(0, statusBytes(1, 0, 4096), statusBytes(2, 0, 4096), readBytes(3, 2048, 2048), readBytes(4, 2048, 2048))
	d.wantSay(1, zeroBytes(1, 0, 2048), zeroBytes(2, 0, 2048), writeBytes(3, 2048, many(2048, 0)), writeBytes(4, 2048, many(2048, 0)), flushBytes(5), flushBytes(6))
	d.hear(1, simpleBytes(5, 6))
	d.wantFailed(api.CopyState{Size: 4096, Done: 4096, Copied: 2048, Zeroed: 2048, Again: 5}, 1, 5, 0)
}

// P23.5: two parts of one chunk are two errands: each has its tries, and its own first byte.
func TestPartsHaveTheirOwnTries(t *testing.T) {
	plan := lonely(aPlan())
	plan.Tries = 2
	d := working(t, "two zeroes", plan, telling, 8192)
	d.hear(0, telling.status(1, []run{{1024, 2}, {1024, 0}, {2048, 2}}, nil))
	d.hear(1, simpleBytes(5, 1))
	d.hear(1, simpleBytes(0, 2))
	d.hear(0, telling.read(2, 1024, many(1024, 0)))
	d.hear(1, simpleBytes(0, 3))
	d.hear(1, simpleBytes(5, 4))
	d.wantSay(0, statusBytes(1, 0, 4096), readBytes(2, 1024, 1024))
	d.wantSay(1, zeroBytes(1, 0, 1024), zeroBytes(2, 0, 1024), writeBytes(3, 1024, many(1024, 0)), zeroBytes(4, 2048, 2048), zeroBytes(5, 2048, 2048))
	d.hear(1, simpleBytes(28, 5))
	d.wantFailed(api.CopyState{Size: 8192, Copied: 1024, Zeroed: 1024, Again: 2}, 1, 28, 2048)
}

// P23.5: errands of different chunks count each for itself; the same cookie of the other side is another request's.
func TestErrandsApart(t *testing.T) {
	d := working(t, "apart", aPlan(), plainly, 8192)
	d.hear(0, plainly.fails(1, 5), plainly.fails(2, 5))
	d.hear(0, plainly.fails(3, 5), plainly.fails(4, 5))
	d.wantState(api.CopyState{Phase: api.CopyWork, Size: 8192, Again: 4})
	d.wantSay(0, readBytes(1, 0, 4096), readBytes(2, 4096, 4096), readBytes(3, 0, 4096), readBytes(4, 4096, 4096), readBytes(5, 0, 4096), readBytes(6, 4096, 4096))
	d.hear(0, plainly.read(5, 0, many(4096, 0)))
	d.wantSay(1, writeBytes(1, 0, many(4096, 0)))
	d.hear(1, simpleBytes(5, 1))
	d.wantSay(1, writeBytes(2, 0, many(4096, 0)))
	d.hear(0, plainly.fails(6, 77))
	d.wantFailed(api.CopyState{Size: 8192, Again: 5}, 0, 77, 4096)
}

// P23.5: an errand asked again keeps its place: what is answered in the meantime goes on.
func TestAgainBesideOthers(t *testing.T) {
	d := working(t, "beside others", aPlan(), telling, 12288)
	d.hear(0, telling.fails(2, 5))
	d.hear(0, telling.status(1, []run{{4096, 2}}, nil))
	d.hear(1, simpleBytes(0, 1))
	d.wantSay(0, statusBytes(1, 0, 4096), statusBytes(2, 4096, 4096), statusBytes(3, 4096, 4096), statusBytes(4, 8192, 4096))
	d.hear(0, telling.status(4, []run{{4096, 2}}, nil))
	d.hear(0, telling.status(3, []run{{4096, 2}}, nil))
	d.wantSay(1, zeroBytes(1, 0, 4096), zeroBytes(2, 8192, 4096), zeroBytes(3, 4096, 4096))
	d.hear(1, simpleBytes(0, 3), simpleBytes(0, 2))
	d.wantState(api.CopyState{Phase: api.CopyFlush, Size: 12288, Done: 12288, Zeroed: 12288, Again: 1})
}

// P23.5: an answer to nothing is what no server says: it breaks the client.
func TestAnswersToNothing(t *testing.T) {
	for _, x := range []struct {
		side   int
		cookie uint64
	}{{0, 0}, {0, 4}, {0, 1}, {0, max64}, {1, 0}, {1, 4}, {1, 77}} {
		d := written(t, fmt.Sprintf("side %d, cookie %d", x.side, x.cookie))
		d.hear(x.side, simpleBytes(0, x.cookie))
		d.wantFailed(api.CopyState{Size: 8192}, x.side, 0, 0)
	}
	for _, r := range errands() {
		d := r.reach(t, r.name+", and bytes that are none", aPlan())
		d.hear(r.side, many(64, 0))
		s := d.c.State()
		d.wantFailed(s, r.side, 0, 0)
	}
}

// P23.5, P23.2: what one event leads to is done ahead of the next: of two answers in one piece, the first of which ends the copy, the second leads to nothing.
func TestNothingBehindTheEnd(t *testing.T) {
	plan := aPlan()
	plan.Tries = 1
	reading := func(what string) *desk {
		d := working(t, what, plan, plainly, 8192)
		d.wantSay(0, readBytes(1, 0, 4096), readBytes(2, 4096, 4096))
		return d
	}
	d := reading("two errors")
	d.hear(0, plainly.fails(2, 9), plainly.fails(1, 5))
	d.wantFailed(api.CopyState{Size: 8192}, 0, 9, 4096)

	d = reading("an error, and a read")
	d.hear(0, plainly.fails(2, 9), plainly.read(1, 0, many(4096, 0)), many(50, 0))
	d.wantSay(1)
	d.wantFailed(api.CopyState{Size: 8192}, 0, 9, 4096)

	d = reading("a read, and an error")
	d.hear(0, plainly.read(1, 0, many(4096, 0)), plainly.fails(2, 9))
	d.wantState(api.CopyState{Phase: api.CopyFailed, Size: 8192, Code: 9, Off: 4096})
	d.wantSay(1, writeBytes(1, 0, many(4096, 0)))
	d.wantOver()

	d = reading("an error, and bytes that are none")
	d.hear(0, plainly.fails(1, 9), many(50, 0))
	d.wantFailed(api.CopyState{Size: 8192}, 0, 9, 0)

	d = flushing(t, "the flush, and bytes that are none")
	d.hear(1, simpleBytes(0, 3), many(50, 0))
	d.wantState(api.CopyState{Phase: api.CopyDone, Size: 8192, Done: 8192, Copied: 4096, Zeroed: 4096})
	d.wantSay(0, discBytes(4))
	d.wantSay(1) // a client that is broken says nothing
	d.wantOver()
}
