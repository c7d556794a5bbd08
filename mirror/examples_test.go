package mirror_test

import (
	"testing"

	"spindle/api"
)

// Examples 1 and 2: a write goes to both; a read goes to the first one, and, since that fails, to the second.
func TestExamples1And2(t *testing.T) {
	d := opened(t, "examples 1 and 2", 2)
	d.wantStates("ww")
	id, e := d.write(0, []byte("ab"))
	want(t, "Write: error", e, api.OK)
	want(t, "Write", id, 1)
	d.wantSay(0, writeBytes(1, 0, []byte("ab")))
	d.wantSay(1, writeBytes(1, 0, []byte("ab")))
	d.hear(0, well(1))
	d.wantDone()
	d.hear(1, well(1))
	d.wantDone(api.MirrorDone{ID: 1})

	d.read(0, 2)
	d.wantSay(0, readBytes(2, 0, 2))
	d.wantSay(1)
	d.hear(0, simpleBytes(5, 2))
	d.wantStates("ow")
	d.wantSay(1, readBytes(2, 0, 2))
	d.hear(1, well(2, 'a', 'b'))
	d.wantDone(api.MirrorDone{ID: 2, Data: []byte("ab")})
	d.wantMissed(0)
}

// Example 3: what a member that is out misses is copied to it when it comes back.
func TestExample3(t *testing.T) {
	d := opened(t, "example 3", 2)
	d.lost(0)
	d.write(1024, []byte("xyz"))
	d.wantSay(1, writeBytes(1, 1024, []byte("xyz")))
	d.hear(1, well(1))
	d.wantDone(api.MirrorDone{ID: 1})
	d.wantMissed(0, 1024, 1027)
	d.opens(0)
	d.wantStates("sw")
	d.wantWaiting(0, 0)
	d.wantSay(0)
	d.wantSay(1, readBytes(2, 1024, 3))
	d.hear(1, well(2, 'x', 'y', 'z'))
	d.wantSay(0, writeBytes(1, 1024, []byte("xyz")))
	d.wantMissed(0, 1024, 1027)
	d.hear(0, well(1))
	d.wantMissed(0)
	d.wantStates("sw")
	d.wantSay(0, flushBytes(2))
	d.wantWaiting(0, 0)
	d.hear(0, well(2))
	d.wantStates("ww")
	d.wantWaiting(0, -1)
	d.wantQuiet()
}

// Example 4: nobody is left; the one that comes back is whole, if it misses nothing.
func TestExample4(t *testing.T) {
	d := opened(t, "example 4", 2)
	d.lost(0)
	d.lost(1)
	d.read(0, 1)
	d.wantDone(api.MirrorDone{ID: 1, Code: 5})
	d.opens(1)
	d.wantStates("ow")

	d = lacking(t, "example 4, a stale one", 2, 0, 512)
	d.lost(0)
	d.opens(1)
	d.wantStates("os")
	d.read(0, 1)
	d.wantDone(api.MirrorDone{ID: 2, Code: 5})
	d.wantStates("os")
	want(t, "Trust", d.trust(1), api.OK)
	d.wantStates("ow")
	d.wantMissed(0, 0, 4096)
	d.wantMissed(1)
}

// Example 5: what is refused.
func TestExample5(t *testing.T) {
	d := opened(t, "example 5", 2)
	_, e := d.write(0, make([]byte, 1025))
	want(t, "a Write of 1025 bytes", e, api.ErrLong)
	_, e = d.read(4095, 2)
	want(t, "Read(4095, 2)", e, api.ErrBounds)
	_, e = d.zero(0, 0)
	want(t, "Zero(0, 0)", e, api.ErrArg)
	d.wantQuiet()
	d.wantDone()
}
