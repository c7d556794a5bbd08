package mirror_test

import (
	"fmt"
	"testing"

	"spindle/api"
)

// P24.3: what is refused, and with which error, at the bounds; nothing changes by it, and it has no number.
func TestRefusals(t *testing.T) {
	const size, chunk = 4096, 1024
	type call struct {
		off uint64
		n   uint32
		e   api.Errno
	}
	for kind, list := range map[string][]call{
		"Read": {
			{0, 0, api.ErrArg}, {size, 0, api.ErrArg}, {1<<64 - 1, 0, api.ErrArg},
			{0, chunk + 1, api.ErrLong}, {size, chunk + 1, api.ErrLong}, {0, 1<<32 - 1, api.ErrLong}, {1<<64 - 1, chunk + 1, api.ErrLong},
			{size, 1, api.ErrBounds}, {size - 1, 2, api.ErrBounds}, {size - chunk + 1, chunk, api.ErrBounds}, {size + 1, 1, api.ErrBounds}, {1 << 40, 1, api.ErrBounds}, {1 << 63, 1, api.ErrBounds}, {1<<64 - 1, 1, api.ErrBounds}, {1<<64 - 1, 2, api.ErrBounds}, {1<<64 - chunk, chunk, api.ErrBounds},
			{0, 1, api.OK}, {0, chunk, api.OK}, {size - 1, 1, api.OK}, {size - chunk, chunk, api.OK},
		},
		"Write": {
			{0, 0, api.ErrArg}, {size, 0, api.ErrArg}, {1<<64 - 1, 0, api.ErrArg},
			{0, chunk + 1, api.ErrLong}, {size, chunk + 1, api.ErrLong}, {0, 1 << 21, api.ErrLong},
			{size, 1, api.ErrBounds}, {size - 1, 2, api.ErrBounds}, {size - chunk + 1, chunk, api.ErrBounds}, {1 << 63, 1, api.ErrBounds}, {1<<64 - 1, 1, api.ErrBounds}, {1<<64 - 2, 3, api.ErrBounds},
			{0, 1, api.OK}, {0, chunk, api.OK}, {size - 1, 1, api.OK}, {size - chunk, chunk, api.OK},
		},
		"Zero": {
			{0, 0, api.ErrArg}, {size, 0, api.ErrArg}, {1<<64 - 1, 0, api.ErrArg},
			{0, size + 1, api.ErrBounds}, {1, size, api.ErrBounds}, {size, 1, api.ErrBounds}, {size - 1, 2, api.ErrBounds}, {0, 1<<32 - 1, api.ErrBounds}, {1<<64 - 1, 1, api.ErrBounds}, {1<<64 - 1, 1<<32 - 1, api.ErrBounds}, {1<<64 - size, size, api.ErrBounds},
			{0, chunk + 1, api.OK}, {0, size, api.OK}, {size - 1, 1, api.OK}, {1, size - 1, api.OK},
		},
	} {
		for _, states := range []string{"all out", "one whole", "one in work"} {
			d := newDesk(t, kind+", "+states, aPlan(2))
			id := 0
			if states != "all out" {
				d.opens(0)
			}
			if states == "one in work" {
				id, _ = d.flush()
			}
			for _, x := range list {
				got, e := d.call(kind, x.off, x.n)
				want(t, fmt.Sprintf("%s(%d, %d)", d.what, x.off, x.n), e, x.e)
				if x.e == api.OK {
					id++
					want(t, fmt.Sprintf("%s(%d, %d): its number", d.what, x.off, x.n), got, id)
				}
			}
			d.settleAll()
		}
	}
}

// call asks an operation of a kind that has bytes.
func (d *desk) call(kind string, off uint64, n uint32) (int, api.Errno) {
	d.t.Helper()
	switch kind {
	case "Read":
		return d.read(off, n)
	case "Zero":
		return d.zero(off, n)
	}
	return d.write(off, many(int(n), 0))
}

// settleAll is settle, of operations that may go wrong.
func (d *desk) settleAll() {
	d.t.Helper()
	d.done()
	d.settle()
	d.wantWaiting(0, -1)
}

// P24.3: numbers are from 1 on, one more each, over all kinds, whatever comes of the operations.
func TestNumbers(t *testing.T) {
	d := newDesk(t, "numbers", aPlan(1))
	for n := range 12 {
		if n == 5 {
			d.opens(0)
		}
		if n == 9 {
			d.settleAll()
			d.lost(0)
		}
		d.do(kinds[n%4])
		id, e := d.write(5000, []byte("x"))
		want(t, "a refused one", e, api.ErrBounds)
		want(t, "a refused one: its number", id, 0)
		d.m.Look()
	}
	id, _ := d.flush()
	want(t, "the number", id, 13)
}

// P24.3: MaxMirror operations wait, the one in work among them; one more is refused, of every kind, and behind all other errors; with one that ends there is room for one.
func TestBusy(t *testing.T) {
	d := opened(t, "busy", 1)
	for n := range api.MaxMirror {
		d.wantWaiting(n, -1)
		d.write(uint64(n), []byte("x"))
	}
	for _, kind := range []string{"Read", "Write", "Zero"} {
		_, e := d.call(kind, 0, 1)
		want(t, kind+": one more", e, api.ErrBusy)
		_, e = d.call(kind, 4096, 1)
		want(t, kind+": one more, out of bounds", e, api.ErrBounds)
		_, e = d.call(kind, 0, 0)
		want(t, kind+": one more, without a byte", e, api.ErrArg)
	}
	_, e := d.read(0, 1025)
	want(t, "one more, too long", e, api.ErrLong)
	_, e = d.flush()
	want(t, "Flush: one more", e, api.ErrBusy)
	d.wantWaiting(64, -1)
	d.say(0)
	d.hear(0, well(1))
	d.wantWaiting(63, -1)
	id, e := d.flush()
	want(t, "with room", e, api.OK)
	want(t, "its number", id, 65)
	_, e = d.flush()
	want(t, "without room again", e, api.ErrBusy)
	d.lost(0)
	d.wantWaiting(0, -1)
	want(t, "all have ended", len(d.done()), 65)
}

// P24.3: operations that wait for a copying count, too.
func TestBusyWhileCopying(t *testing.T) {
	d := lacking(t, "busy, copying", 2, 0, 10)
	d.opens(1)
	for range api.MaxMirror {
		d.read(0, 1)
	}
	_, e := d.flush()
	want(t, "one more", e, api.ErrBusy)
	d.wantWaiting(64, 1)
	d.settle()
	d.wantStates("ww")
	d.wantWaiting(0, -1)
}

// P24.3: where none is whole operations end at once: there is always room.
func TestNeverBusy(t *testing.T) {
	d := newDesk(t, "nobody is there", aPlan(2))
	for n := range 3 * api.MaxMirror {
		d.do(kinds[n%4])
		d.wantWaiting(0, -1)
	}
	list := d.done()
	want(t, "how many have ended", len(list), 192)
	for n, x := range list {
		wantEnded(t, "each of them", []api.MirrorDone{x}, []api.MirrorDone{wentWrong(n + 1)})
	}
}

// P24.3: operations are done one behind the other, in their order, whatever their kinds: the next one is asked when the one ahead has ended.
func TestOneBehindTheOther(t *testing.T) {
	for n := range 64 {
		first, second, third := kinds[n%4], kinds[n/4%4], kinds[n/16]
		d := opened(t, first+", "+second+", "+third, 2)
		d.do(first)
		d.do(second)
		d.do(third)
		cookies := []uint64{1, 1}
		for at, kind := range []string{first, second, third} {
			d.wantWaiting(3-at, -1)
			for k := range 2 {
				if kind == "Read" && k == 1 {
					d.wantSay(k)
					continue
				}
				d.wantSay(k, bytesOf(kind, cookies[k]))
			}
			d.wantDone()
			for k := range 2 {
				if kind != "Read" || k == 0 {
					answer, _ := answerTo(kind, cookies[k])
					d.hear(k, answer)
					cookies[k]++
				}
			}
			_, told := answerTo(kind, 0)
			d.wantDone(api.MirrorDone{ID: at + 1, Data: told})
		}
		d.wantWaiting(0, -1)
		d.wantQuiet()
	}
}

// P24.3: Done tells what has ended since it was asked last, in the order in which it ended.
func TestDone(t *testing.T) {
	d := opened(t, "what has ended", 1)
	for n := range 5 {
		d.read(uint64(n), 2)
	}
	d.wantDone()
	for n := range 5 {
		d.say(0)
		d.hear(0, well(uint64(n+1), byte('a'+n), 'x'))
		if n == 1 {
			d.wantDone(api.MirrorDone{ID: 1, Data: []byte("ax")}, api.MirrorDone{ID: 2, Data: []byte("bx")})
		}
	}
	d.wantDone(api.MirrorDone{ID: 3, Data: []byte("cx")}, api.MirrorDone{ID: 4, Data: []byte("dx")}, api.MirrorDone{ID: 5, Data: []byte("ex")})
	d.wantDone()
}
