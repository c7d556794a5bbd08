package copier_test

import (
	"testing"

	"spindle/api"
)

// done is the state of the example's copy when it is done.
func done() api.CopyState {
	return api.CopyState{Phase: api.CopyDone, Size: 8192, Done: 8192, Copied: 4096, Zeroed: 4096}
}

// P23.6: the flush comes when all chunks are done, and not ahead of that; with its answer it is done, and both sides take their leave.
func TestDone(t *testing.T) {
	d := written(t, "done")
	d.hear(1, simpleBytes(0, 2))
	d.wantSay(1)
	d.hear(1, simpleBytes(0, 1))
	d.wantSay(1, flushBytes(3))
	flush := done()
	flush.Phase = api.CopyFlush
	d.wantState(flush)
	d.hear(0, nil)
	d.wantState(flush)
	d.hear(1, simpleBytes(0, 3))
	d.wantState(done())
	d.wantSay(0, discBytes(4))
	d.wantSay(1, discBytes(4))
	d.wantOver()
}

// P23.6: what waits in the mails still leaves when it is done, and the DISC stands behind it.
func TestMailsBehindTheEnd(t *testing.T) {
	d := newDesk(t, "nothing was taken", aPlan())
	d.hear(1, greetingBytes(3))
	d.hear(0, greetingBytes(3))
	d.hear(0, replyBytes(8, api.RepUnsup))
	d.hear(0, startBytes(512))
	d.hear(1, startBytes(512))
	d.hear(0, plainly.read(1, 0, many(512, 0)))
	d.hear(1, simpleBytes(0, 1))
	d.hear(1, simpleBytes(0, 2))
	d.wantState(api.CopyState{Phase: api.CopyDone, Size: 512, Done: 512, Copied: 512})
	d.lost(0)
	d.lost(1)
	d.hear(1, many(50, 0))
	d.wantSay(0, flagBytes(3), optionBytes(8), goBytes("a"), readBytes(1, 0, 512), discBytes(2))
	d.wantSay(1, flagBytes(3), goBytes("b"), writeBytes(1, 0, many(512, 0)), flushBytes(2), discBytes(3))
	d.wantOver()
}

// P23.6: what waits in the mails still leaves when it has failed, and nothing else.
func TestMailsBehindAFailure(t *testing.T) {
	d := working(t, "failed", aPlan(), plainly, 8192)
	d.hear(0, plainly.read(1, 0, many(4096, 0)))
	d.hear(1, many(50, 0))
	d.lost(0)
	d.lost(1)
	d.hear(0, plainly.read(2, 4096, many(4096, 0)))
	d.wantState(api.CopyState{Phase: api.CopyFailed, Size: 8192, Side: 1})
	d.wantSay(0, readBytes(1, 0, 4096), readBytes(2, 4096, 4096))
	d.wantSay(1, writeBytes(1, 0, many(4096, 0)))
	d.wantOver()
}

// P23.6: a side that has not begun does not take its leave: one that is gone, or on its way.
func TestNoLeaveOfOneThatIsGone(t *testing.T) {
	d := flushing(t, "gone")
	d.lost(0)
	d.hear(1, simpleBytes(0, 3))
	d.wantState(done())
	d.wantSay(0)
	d.wantSay(1, discBytes(4))
	d.wantOver()

	d = flushing(t, "on its way")
	d.lost(0)
	d.chooses(0, telling)
	d.hear(1, simpleBytes(0, 3))
	d.wantState(done())
	d.wantSay(0)
	d.wantSay(1, discBytes(4))
	d.wantOver()

	d = flushing(t, "begun anew")
	d.lost(0)
	d.begin(0, telling, 8192)
	d.hear(1, simpleBytes(0, 3))
	d.wantState(done())
	d.wantSay(0, discBytes(1))
	d.wantSay(1, discBytes(4))
	d.wantOver()
}

// P23.6: a source that breaks during the flush fails the copy.
func TestBrokenDuringTheFlush(t *testing.T) {
	for side := range 2 {
		d := flushing(t, "the flush")
		before := d.c.State()
		d.hear(side, many(50, 0))
		d.wantFailed(before, side, 0, 0)
	}
}
