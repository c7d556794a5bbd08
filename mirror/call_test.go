package mirror_test

import (
	"fmt"
	"math"
	"testing"

	"spindle/api"
	"spindle/mirror"
)

// R1: a mirror that New did not give answers ErrNil, ahead of all other errors, and is nothing else.
func TestMirrorsThatNoCallMade(t *testing.T) {
	var none *mirror.Mirror
	for name, m := range map[string]*mirror.Mirror{"nil": none, "zero": {}} {
		for range 2 {
			for _, k := range []int{0, 1, 3, 4, -1, math.MaxInt, math.MinInt} {
				want(t, name+": Join", m.Join(k), api.ErrNil)
				for _, b := range [][]byte{nil, {}, {0}, greetingBytes(3), startBytes(4096), well(1), many(1000, 0)} {
					want(t, name+": Hear", m.Hear(k, b), api.ErrNil)
				}
				want(t, name+": Lost", m.Lost(k), api.ErrNil)
				want(t, name+": Trust", m.Trust(k), api.ErrNil)
				wantBytes(t, name+": Say", m.Say(k), nil)
			}
			for _, off := range []uint64{0, 1, 4096, 1<<64 - 1} {
				for _, n := range []uint32{0, 1, 1024, 1<<32 - 1} {
					wantNil(t, name+": Read")(m.Read(off, n))
					wantNil(t, name+": Zero")(m.Zero(off, n))
					wantNil(t, name+": Write")(m.Write(off, many(int(n%2000), 0)))
				}
				wantNil(t, name+": Write of nothing")(m.Write(off, nil))
			}
			wantNil(t, name+": Flush")(m.Flush())
			wantEnded(t, name, m.Done(), nil)
			l := m.Look()
			if l.Members != nil || l.Missed != nil || l.Waiting != 0 || l.Copying != 0 {
				t.Errorf("%s: Look: %+v", name, l)
			}
		}
	}
}

func wantNil(t *testing.T, what string) func(id int, e api.Errno) {
	return func(id int, e api.Errno) {
		t.Helper()
		want(t, what, e, api.ErrNil)
		want(t, what+": the number", id, 0)
	}
}

// R1: all calls end at all arguments, at whatever point.
func TestAllArguments(t *testing.T) {
	for n, d := range moments(t) {
		d.what = fmt.Sprint("moment ", n)
		for _, off := range []uint64{0, 1, 4095, 4096, 4097, 1 << 40, 1<<63 - 1, 1 << 63, 1<<64 - 1025, 1<<64 - 1} {
			for _, n := range []uint32{0, 1, 2, 1023, 1024, 1025, 4096, 4097, 1 << 31, 1<<32 - 1} {
				d.read(off, n)
				d.zero(off, n)
				d.write(off, many(int(n%5000), 0))
			}
		}
		for _, k := range []int{math.MinInt, -1, 0, 1, 2, 3, 4, math.MaxInt} {
			d.trust(k)
			d.say(k)
			d.hear(k, nil)
			d.hear(k, many(3000, k&7))
			d.lost(k)
			d.join(k)
		}
		d.done()
	}
}
