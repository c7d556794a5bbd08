package mirror_test

import (
	"fmt"
	"math"
	"slices"
	"testing"

	"spindle/api"
)

// moments are desks of three members at all points: none of them joined, some did, all are whole, an operation of each kind is in work, something is copied or flushed.
func moments(t *testing.T) []*desk {
	t.Helper()
	joined := newDesk(t, "joined", aPlan(3))
	joined.join(1)
	chosen := newDesk(t, "chosen", aPlan(3))
	chosen.chooses(2)
	list := []*desk{newDesk(t, "new", aPlan(3)), joined, chosen, opened(t, "whole", 3)}
	for _, kind := range kinds {
		d := lacking(t, kind+" in work", 3, 0, 100)
		d.do(kind)
		list = append(list, d)
	}
	copied := lacking(t, "a copying", 3, 0, 100)
	copied.opens(2)
	copied.flush()
	flushed := flushing(t, "a flush")
	flushed.write(0, []byte("x"))
	alone := lacking(t, "no whole one", 3, 0, 100)
	alone.lost(0)
	alone.lost(1)
	alone.opens(2)
	return append(list, copied, flushed, alone)
}

// kinds are those of the operations.
var kinds = []string{"Read", "Write", "Zero", "Flush"}

// do asks an operation of a kind, of the bytes 300 to 303, if it has some.
func (d *desk) do(kind string) {
	d.t.Helper()
	switch kind {
	case "Read":
		d.read(300, 4)
	case "Write":
		d.write(300, []byte("data"))
	case "Zero":
		d.zero(300, 4)
	case "Flush":
		d.flush()
	}
}

// bytesOf are what a member is asked for such an operation.
func bytesOf(kind string, cookie uint64) []byte {
	switch kind {
	case "Read":
		return readBytes(cookie, 300, 4)
	case "Write":
		return writeBytes(cookie, 300, []byte("data"))
	case "Zero":
		return zeroBytes(cookie, 300, 4)
	}
	return flushBytes(cookie)
}

// answerTo answers such an operation well, and what it tells then.
func answerTo(kind string, cookie uint64) ([]byte, []byte) {
	if kind == "Read" {
		return well(cookie, 't', 'o', 'l', 'd'), []byte("told")
	}
	return well(cookie), nil
}

// flushing gives a desk of three members, of which the last one misses nothing any more, and was asked to flush with the cookie 2.
func flushing(t *testing.T, what string) *desk {
	t.Helper()
	d := lacking(t, what, 3, 0, 100)
	d.opens(2)
	d.wantSay(0, readBytes(2, 0, 100))
	d.hear(0, well(2, many(100, 0)...))
	d.wantSay(2, writeBytes(1, 0, many(100, 0)))
	d.hear(2, well(1))
	d.wantSay(2, flushBytes(2))
	d.wantStates("wws")
	d.wantWaiting(0, 2)
	return d
}

// P24.2: of a number that is no member's nothing is joined, heard, said or lost, at whatever point, and nothing changes.
func TestNoSuchMember(t *testing.T) {
	for n := range moments(t) {
		d, other := moments(t)[n], moments(t)[n]
		for _, k := range []int{3, -1, 4, 256, -256, 1 << 32, 1<<32 + 1, math.MaxInt, math.MinInt} {
			want(t, d.what+": Join", d.join(k), api.ErrMember)
			for _, b := range [][]byte{nil, greetingBytes(3), well(1), many(50, 0)} {
				want(t, d.what+": Hear", d.hear(k, b), api.ErrMember)
			}
			want(t, d.what+": Lost", d.lost(k), api.ErrMember)
			want(t, d.what+": Trust", d.trust(k), api.ErrMember)
			d.wantSay(k)
			wantLook(t, d.what, d.m.Look(), other.m.Look())
		}
		for k := range 3 {
			d.wantSay(k, other.say(k))
		}
	}
}

// P24.2: a member joins just if it is out, and is heard and lost just if it is not; what is refused changes nothing.
func TestStatesInWhichAMemberMayBe(t *testing.T) {
	for n := range moments(t) {
		for k := range 3 {
			d, other := moments(t)[n], moments(t)[n]
			out := d.m.Look().Members[k] == api.MemberOut
			if out {
				want(t, d.what+": Hear", d.hear(k, greetingBytes(3)), api.ErrMember)
				want(t, d.what+": Hear of nothing", d.hear(k), api.ErrMember)
				want(t, d.what+": Lost", d.lost(k), api.ErrMember)
			} else {
				want(t, d.what+": Join", d.join(k), api.ErrMember)
			}
			wantLook(t, d.what, d.m.Look(), other.m.Look())
			d.wantSay(k, other.say(k))
			if out {
				want(t, d.what+": Join", d.join(k), api.OK)
				want(t, d.what+": joined", d.m.Look().Members[k], api.MemberJoining)
			} else {
				want(t, d.what+": Hear of nothing", d.hear(k), api.OK)
				want(t, d.what+": Lost", d.lost(k), api.OK)
				want(t, d.what+": lost", d.m.Look().Members[k], api.MemberOut)
			}
			d.wantSay(k)
		}
	}
}

// P24.2: no byte leads to nothing, at whatever point.
func TestNoByte(t *testing.T) {
	for n, d := range moments(t) {
		other := moments(t)[n]
		for k := range 3 {
			d.hear(k)
			d.hear(k, []byte{})
			d.wantSay(k, other.say(k))
		}
		wantLook(t, d.what, d.m.Look(), other.m.Look())
	}
}

// P24.2: a greeting is answered by those of its flags that a client may say, and by GO.
func TestGreeting(t *testing.T) {
	for flags := range uint16(8) {
		d := newDesk(t, fmt.Sprint("a greeting with flags ", flags), aPlan(2))
		d.join(1)
		d.hear(1, greetingBytes(flags))
		if flags == 1 || flags == 3 {
			d.wantStates("oj")
			d.wantSay(1, flagBytes(uint32(flags)), goBytes("a"))
		} else {
			d.wantStates("oo")
			d.wantSay(1)
		}
	}
}

// P24.2: byte by byte, what leads to something does as soon as it is whole.
func TestPieces(t *testing.T) {
	d := newDesk(t, "byte by byte", aPlan(1))
	d.join(0)
	for _, x := range []struct{ b, said []byte }{
		{greetingBytes(3), append(flagBytes(3), goBytes("a")...)},
		{startBytes(4096), nil},
	} {
		for i := range x.b {
			d.wantStates("j")
			d.wantSay(0)
			d.hear(0, x.b[i:i+1])
		}
		d.wantSay(0, x.said)
	}
	d.wantStates("w")
}

// P24.2: a refused GO drops the member, whatever the kind of the answer; what was told ahead of it does not matter.
func TestRefusedGo(t *testing.T) {
	for _, kind := range []uint32{api.RepUnsup, api.RepPolicy, api.RepInvalid, api.RepPlatform, api.RepTLS, api.RepUnknown, api.RepShutdown, api.RepBlockSize, api.RepTooBig, api.RepExtended, 1 << 31, 1<<32 - 1} {
		for _, ahead := range [][]byte{nil, exportBytes(4096)} {
			d := newDesk(t, fmt.Sprintf("refused with %x", kind), aPlan(2))
			d.chooses(0)
			d.hear(0, ahead)
			d.wantStates("jo")
			d.hear(0, replyBytes(7, kind, []byte("no")...))
			d.wantStates("oo")
			d.wantQuiet()
			want(t, d.what+": Hear", d.hear(0, exportBytes(4096)), api.ErrMember)
			d.opens(0)
			d.wantStates("wo")
		}
	}
}

// P24.2: what no server may say drops the member, wherever it stands, and whatever waits in its mail.
func TestBroken(t *testing.T) {
	noise := many(40, 0)
	for what, x := range map[string]func(d *desk){
		"ahead of the greeting":      func(d *desk) { d.join(0); d.hear(0, noise) },
		"behind the greeting":        func(d *desk) { d.join(0); d.hear(0, greetingBytes(3), noise) },
		"behind it, in a next piece": func(d *desk) { d.join(0); d.hear(0, greetingBytes(3)); d.hear(0, noise) },
		"in the place of an answer":  func(d *desk) { d.chooses(0); d.hear(0, noise) },
		"an answer to another option": func(d *desk) {
			d.chooses(0)
			d.hear(0, ackBytes(8))
		},
		"an acknowledgement without a size": func(d *desk) { d.chooses(0); d.hear(0, ackBytes(7)) },
		"a size told twice":                 func(d *desk) { d.chooses(0); d.hear(0, exportBytes(4096), exportBytes(4096)) },
		"behind the start":                  func(d *desk) { d.chooses(0); d.hear(0, startBytes(4096), noise) },
		"in the transmission":               func(d *desk) { d.opens(0); d.hear(0, noise) },
		"an answer to nothing":              func(d *desk) { d.opens(0); d.hear(0, well(1)) },
		"an answer to something else":       func(d *desk) { d.opens(0); d.write(0, []byte("x")); d.hear(0, well(2)) },
		"a chunk": func(d *desk) {
			d.opens(0)
			d.flush()
			d.hear(0, lay(uint32(0x668e33ef), uint32(1<<16), uint64(1), uint32(0)))
		},
	} {
		d := newDesk(t, what, aPlan(2))
		d.opens(1)
		x(d)
		d.wantStates("ow")
		d.wantSay(0)
		want(t, what+": Hear", d.hear(0, greetingBytes(3)), api.ErrMember)
		want(t, what+": Lost", d.lost(0), api.ErrMember)
	}
}

// P24.2: a size less than the device's drops the member; else it is whole, if it misses nothing, or else stale.
func TestStart(t *testing.T) {
	for _, size := range []uint64{0, 1, 512, 4095, 4096, 4097, 8192, 1 << 40, 1 << 63, 1<<64 - 1} {
		for _, missed := range []bool{false, true} {
			d := opened(t, fmt.Sprintf("size %d, missing something %v", size, missed), 2)
			d.lost(1)
			if missed {
				d.write(4095, []byte("x"))
				d.settle()
			}
			d.chooses(1)
			d.hear(1, startBytes(size))
			switch {
			case size < 4096:
				d.wantStates("wo")
				d.wantSay(0)
			case missed:
				d.wantStates("ws")
				d.wantSay(0, readBytes(2, 4095, 1))
			default:
				d.wantStates("ww")
				d.wantSay(0)
			}
			d.wantSay(1)
		}
	}
}

// P24.2: all other events lead to nothing: what is told of an export beside its size.
func TestOtherEvents(t *testing.T) {
	d := newDesk(t, "informations", aPlan(1))
	d.chooses(0)
	for _, b := range [][]byte{
		exportBytes(4096),
		replyBytes(7, 3, lay(uint16(1), "a")...),
		replyBytes(7, 3, lay(uint16(2), "a text")...),
		replyBytes(7, 3, lay(uint16(3), uint32(1), uint32(4096), uint32(1024))...),
		replyBytes(7, 3, lay(uint16(77), "whatever")...),
	} {
		d.hear(0, b)
		d.wantStates("j")
		d.wantSay(0)
	}
	d.hear(0, ackBytes(7))
	d.wantStates("w")
	d.wantSay(0)
}

// P24.2: Say gives the mail once; what joins it stands behind what was not taken away. A member that is dropped has none, and one that joins has a new client.
func TestSay(t *testing.T) {
	d := newDesk(t, "the mail", aPlan(2))
	d.opens(0)
	d.join(1)
	d.hear(1, greetingBytes(1))
	d.hear(1, startBytes(4096))
	d.write(7, []byte("one"))
	d.wantSay(1, flagBytes(1), goBytes("a"), writeBytes(1, 7, []byte("one")))
	d.wantSay(1)
	d.hear(0, well(1))
	d.hear(1, well(1))
	d.flush()
	d.hear(0, well(2))
	d.wantSay(0, writeBytes(1, 7, []byte("one")), flushBytes(2))
	d.lost(1)
	d.wantSay(1)
	d.opens(1)
	d.zero(8, 2)
	d.wantSay(1, zeroBytes(1, 8, 2))
	d.wantSay(0, zeroBytes(3, 8, 2))
}

// P24.2: each event has led to all that follows from it ahead of the next one: what begins with a start, and is broken off by what stands behind it in the same piece.
func TestEventsInTheirOrder(t *testing.T) {
	noise := many(40, 0)
	d := lacking(t, "a stale one", 3, 0, 100)
	d.chooses(2)
	d.hear(2, startBytes(4096), noise)
	d.wantStates("wwo")
	d.wantWaiting(0, -1)
	d.wantSay(0, readBytes(2, 0, 100))
	d.hear(0, well(2, many(100, 0)...))
	d.wantQuiet()
	d.wantMissed(2, 0, 100)

	d = lacking(t, "a whole one", 2, 0, 100)
	d.lost(0)
	d.opens(1)
	d.wantStates("os")
	d.chooses(0)
	d.hear(0, startBytes(4096), noise)
	d.wantStates("os")
	d.wantWaiting(0, -1)
	d.wantQuiet()

	d = opened(t, "the answer of a read", 2)
	d.read(0, 2)
	d.write(5, []byte("x"))
	d.say(0)
	d.hear(0, well(1, 'a', 'b'), noise)
	d.wantStates("ow")
	d.wantDone(api.MirrorDone{ID: 1, Data: []byte("ab")})
	d.wantSay(0)
	d.wantSay(1, writeBytes(1, 5, []byte("x")))
	d.wantMissed(0, 5, 6)
	d.hear(1, well(1))
	d.wantDone(wentWell(2))

	d = opened(t, "the last answer of a write, and what was never asked", 1)
	d.write(5, []byte("x"))
	d.write(6, []byte("y"))
	d.say(0)
	d.hear(0, well(1), well(2))
	d.wantStates("o")
	d.wantDone(wentWell(1), wentWrong(2))
	d.wantMissed(0, 6, 7)
}

// P24.2: Lost of a member on its way to the start: it begins anew at its next Join.
func TestLostOnTheWay(t *testing.T) {
	for n, way := range [][][]byte{
		{},
		{greetingBytes(3)[:9]},
		{greetingBytes(3)},
		{greetingBytes(3), exportBytes(4096)},
		{greetingBytes(3), startBytes(4096)},
	} {
		d := newDesk(t, fmt.Sprint("lost behind piece ", n), aPlan(2))
		d.join(1)
		for _, b := range way {
			d.hear(1, b)
		}
		d.lost(1)
		d.wantStates("oo")
		d.wantSay(1)
		d.opens(1)
		d.wantStates("ow")
	}
}

// P24.2: members join in whatever order; each has what it says and hears for itself.
func TestMembersApart(t *testing.T) {
	d := newDesk(t, "in turns", aPlan(4))
	order := []int{2, 0, 3, 1}
	for _, k := range order {
		d.join(k)
	}
	d.wantStates("jjjj")
	for i, k := range order {
		d.hear(k, greetingBytes(3))
		for other := range 4 {
			if slices.Contains(order[:i], other) {
				d.wantSay(other)
			}
		}
		d.wantSay(k, flagBytes(3), goBytes("a"))
	}
	d.hear(3, startBytes(4096))
	d.hear(1, replyBytes(7, api.RepUnknown))
	d.hear(0, startBytes(4000))
	d.wantStates("oojw")
}
