package copier_test

import (
	"testing"

	"spindle/api"
	"spindle/copier"
)

// The chapter's examples: a source of 8192 bytes, the second chunk a hole.

// Example 1: how the sides begin.
func TestExampleBeginnings(t *testing.T) {
	d := newDesk(t, "example 1", aPlan())
	d.wantState(api.CopyState{Phase: api.CopyBegin})
	d.hear(0, greetingBytes(3))
	said := d.say(0)
	wantBytes(t, "flags and structured-reply", said, lay(uint32(3), "IHAVEOPT", uint32(8), uint32(0)))
	want(t, "its bytes", len(said), 4+16)
	d.hear(0, ackBytes(8))
	d.wantSay(0, optionBytes(10, lay(uint32(1), "a", uint32(1), uint32(15), "base:allocation")...))
	d.hear(0, contextBytes(1, "base:allocation"))
	d.wantSay(0)
	d.hear(0, ackBytes(10))
	d.wantSay(0, optionBytes(7, lay(uint32(1), "a", uint16(1), uint16(3))...))
	d.hear(1, greetingBytes(3))
	d.wantSay(1, lay(uint32(3)), optionBytes(7, lay(uint32(1), "b", uint16(1), uint16(3))...))
	d.wantState(api.CopyState{Phase: api.CopyBegin})
}

// written gives a desk at which the example's only write is outstanding, and the zeroes.
func written(t *testing.T, what string) *desk {
	t.Helper()
	d := working(t, what, aPlan(), telling, 8192)
	d.wantSay(0, statusBytes(1, 0, 4096), statusBytes(2, 4096, 4096))
	d.hear(0, telling.status(1, []run{{4096, 0}}, nil))
	d.hear(0, telling.status(2, []run{{4096, 3}}, nil))
	d.wantSay(0, readBytes(3, 0, 4096))
	d.wantSay(1, zeroBytes(1, 4096, 4096))
	d.hear(0, telling.read(3, 0, many(4096, 0)))
	d.wantSay(1, writeBytes(2, 0, many(4096, 0)))
	return d
}

// Example 2: the work.
func TestExampleWork(t *testing.T) {
	d := written(t, "example 2")
	d.hear(1, simpleBytes(0, 1))
	d.wantState(api.CopyState{Phase: api.CopyWork, Size: 8192, Done: 4096, Zeroed: 4096})
	d.hear(1, simpleBytes(0, 2))
	d.wantState(api.CopyState{Phase: api.CopyFlush, Size: 8192, Done: 8192, Copied: 4096, Zeroed: 4096})
	d.wantSay(0)
	d.wantSay(1, flushBytes(3))
	d.hear(1, simpleBytes(0, 3))
	d.wantState(api.CopyState{Phase: api.CopyDone, Size: 8192, Done: 8192, Copied: 4096, Zeroed: 4096})
	d.wantSay(0, discBytes(4))
	d.wantSay(1, discBytes(4))
	d.wantOver()
}

// Example 3: a write that fails.
func TestExampleErrors(t *testing.T) {
	d := written(t, "example 3")
	d.hear(1, simpleBytes(5, 2))
	d.wantState(api.CopyState{Phase: api.CopyWork, Size: 8192, Again: 1})
	d.wantSay(1, writeBytes(3, 0, many(4096, 0)))
	d.hear(1, simpleBytes(5, 3))
	d.wantSay(1, writeBytes(4, 0, many(4096, 0)))
	d.hear(1, simpleBytes(5, 4))
	d.wantState(api.CopyState{Phase: api.CopyFailed, Size: 8192, Again: 2, Side: 1, Code: 5, Off: 0})
	d.wantOver()
}

// Example 4: a connection that is lost.
func TestExampleLost(t *testing.T) {
	d := written(t, "example 4")
	d.hear(1, simpleBytes(0, 1))
	d.lost(1)
	d.hear(1, greetingBytes(3))
	d.wantSay(1, flagBytes(3), goBytes("b"))
	d.hear(1, startBytes(8192))
	d.wantSay(1, writeBytes(1, 0, many(4096, 0)))
	d.wantState(api.CopyState{Phase: api.CopyWork, Size: 8192, Done: 4096, Zeroed: 4096})
}

// Example 5: what is refused.
func TestExampleRefusals(t *testing.T) {
	for what, turn := range map[string]func(p *api.CopyPlan){
		"Chunk 512": func(p *api.CopyPlan) { p.Chunk = 512 },
		"Flight 0":  func(p *api.CopyPlan) { p.Flight = 0 },
		"Tries 0":   func(p *api.CopyPlan) { p.Tries = 0 },
		"a byte 0":  func(p *api.CopyPlan) { p.Source = "a\x00" },
	} {
		p := aPlan()
		turn(&p)
		c, e := copier.New(p)
		want(t, what, e, api.ErrPlan)
		want(t, what, c, nil)
	}
	d := newDesk(t, "example 5", aPlan())
	want(t, "Hear of side 2", d.c.Hear(2, greetingBytes(3)), api.ErrSide)
	d.look()
}
