package label_test

import (
	"bytes"
	"math"
	"slices"
	"testing"

	"spindle/api"
	"spindle/disk"
	"spindle/label"
)

// wantRefused looks that a call answers an error without asking the disk for anything.
func wantRefused(t *testing.T, what string, d *disk.Disk, asks call, wanted api.Errno) {
	t.Helper()
	wantAsked(t, what, d, asks, nil, wanted)
}

// P6.6: the operations, in their order, on disks that held something
func TestFormatAsks(t *testing.T) {
	wantAsked(t, "one", stamped(t, 143), formats(one(100)), formatting(one(100), 42), api.OK)
	wantAsked(t, "mixed", stamped(t, 90), formats(mixed()), formatting(mixed(), 42, 43, 60, 68, 69), api.OK)
	two := labelOf(tracked(export("a", 4097)), export("b", 1))
	wantAsked(t, "several notes", stamped(t, 4145), formats(two), formatting(two, 42, 43, 44, 45, 4143), api.OK)
	d := formatted(t, 143, one(100))
	commit(t, d, described(one(100), "second"))
	lay(t, d, 100, make([]byte, 512)) // waits
	wantAsked(t, "over a label", d, formats(mixed()), formatting(mixed(), 42, 43, 60, 68, 69), api.OK)
}

// P6.6: all but the heads, notes, marks and the body of slot 0 is as it was
func TestFormatTouches(t *testing.T) {
	d := formatted(t, 95, mixed())
	head, body := plain(mixed(), 1)
	image := stamped(t, 95).Image()
	copy(image, head)
	clear(image[512:1024])
	copy(image[1024:], body)
	for _, n := range []int{42, 43, 60, 68, 69} {
		clear(image[512*n:][:512])
	}
	want(t, "the safe bytes", bytes.Equal(d.Image(), image), true)
	want(t, "what waits", len(d.Queue()), 0)
	wantLoad(t, "Load", d, mixed(), 1)
}

// P6.6: ErrSmall, just where a sector is missing
func TestFormatOfASmallDisk(t *testing.T) {
	for _, l := range []api.Label{one(1), mixed(), full(), one(4097)} {
		n, _ := label.Sectors(l)
		for _, sectors := range []int{1, 41, 42, n - 1} {
			wantRefused(t, "small", stamped(t, sectors), formats(l), api.ErrSmall)
		}
		for _, sectors := range []int{n, n + 1} {
			wantLoad(t, "large enough", formatted(t, sectors, l), l, 1)
		}
	}
}

// P6.6 to P6.8: wrong disks and wrong labels, and which error goes first
func TestWrongDisksAndLabels(t *testing.T) {
	for _, d := range []*disk.Disk{nil, {}} {
		for _, l := range []api.Label{one(100), one(0), {}} {
			wantErr(t, "Format", label.Format(d, l), api.ErrNil)
			wantErr(t, "Commit", label.Commit(d, l), api.ErrNil)
		}
		wantNoLoad(t, "Load", d, api.ErrNil)
	}
	for _, l := range []api.Label{{}, one(0), labelOf(export("", 1)), one(65479)} {
		wantRefused(t, "a wrong label", stamped(t, 200), formats(l), api.ErrLabel)
		wantRefused(t, "a wrong label, a small disk", stamped(t, 5), formats(l), api.ErrLabel)
	}
}

// P6.7: disks without a label
func TestLoadOfNone(t *testing.T) {
	small := stamped(t, 41)
	head, _ := plain(one(100), 1)
	lay(t, small, 0, head)
	barrier(t, small)
	wantRefused(t, "41 sectors", small, loads, api.ErrNone)
	wantRefused(t, "41 sectors", small, commits(one(100)), api.ErrNone)
	wantRefused(t, "1 sector", stamped(t, 1), loads, api.ErrNone)
	empty, _ := disk.New(42)
	wantAsked(t, "42 sectors, empty", empty, loads, ops{}.reads(0, 2), api.ErrNone)
	wantAsked(t, "42 sectors, stamped", stamped(t, 42), loads, ops{}.reads(0, 2), api.ErrNone)
	wantAsked(t, "stamped, Commit", stamped(t, 200), commits(one(0)), ops{}.reads(0, 2), api.ErrNone)
	wantNoLoad(t, "stamped", stamped(t, 200), api.ErrNone)
}

// P6.7: which slot is in force, and that the other one's body is not asked for
func TestWhichSlot(t *testing.T) {
	zero, first := described(one(100), "slot 0"), described(one(100), "slot 1")
	for _, c := range []struct {
		seq  [2]uint64 // 0: no such head
		slot int
	}{
		{[2]uint64{1, 0}, 0}, {[2]uint64{0, 1}, 1}, {[2]uint64{1, 2}, 1}, {[2]uint64{2, 1}, 0}, {[2]uint64{3, 3}, 0},
		{[2]uint64{9, 1 << 40}, 1}, {[2]uint64{1 << 40, 9}, 0}, {[2]uint64{255, 256}, 1},
		{[2]uint64{math.MaxInt64, math.MaxInt64 - 1}, 0}, {[2]uint64{math.MaxInt64 - 1, math.MaxInt64}, 1},
		{[2]uint64{math.MaxInt64, math.MaxInt64}, 0},
		{[2]uint64{5, 1 << 63}, 0}, {[2]uint64{1<<63 + 7, 5}, 1}, {[2]uint64{math.MaxUint64, 1}, 1},
	} {
		d := stamped(t, 143)
		layLabel(t, d, 0, zero, c.seq[0])
		layLabel(t, d, 1, first, c.seq[1])
		l := []api.Label{zero, first}[c.slot]
		wantLoad(t, "two slots", d, l, c.seq[c.slot])
		wantAsked(t, "two slots", d, loads, loading(c.slot), api.OK)
		if seq := c.seq[c.slot]; seq < math.MaxInt64 {
			next := described(one(100), "next")
			wantAsked(t, "two slots, Commit", d, commits(next), committing(next, seq, c.slot), api.OK)
		}
		turn(t, d, 2+20*(1-c.slot), 3)
		wantLoad(t, "the other body is turned", d, l, c.seq[c.slot])
		turn(t, d, 2+20*c.slot+19, 511)
		wantNoLoad(t, "its body is turned", d, api.ErrSpoilt)
		wantAsked(t, "its body is turned", d, loads, loading(c.slot), api.ErrSpoilt)
		wantAsked(t, "its body is turned, Commit", d, commits(one(0)), loading(c.slot), api.ErrSpoilt)
	}
}

// P6.7: a head of which any byte is turned is none
func TestTurnedHeads(t *testing.T) {
	d := formatted(t, 143, one(100))
	second := described(one(100), "second")
	commit(t, d, second)
	for at := 0; at < 512; at += 1 + at/40 {
		zero, first := d.Copy(), d.Copy()
		turn(t, zero, 0, at)
		wantLoad(t, "the head of slot 0 is turned", zero, second, 2)
		turn(t, first, 1, at)
		wantLoad(t, "the head of slot 1 is turned", first, one(100), 1)
		turn(t, first, 0, at)
		wantNoLoad(t, "both are turned", first, api.ErrNone)
	}
}

// P6.7: a body in the wrong slot, and heads that were exchanged
func TestWrongBodies(t *testing.T) {
	d := stamped(t, 143)
	head, body := plain(one(100), 4)
	lay(t, d, 1, head)
	lay(t, d, 2, body)
	wantAsked(t, "the other slot's body", d, loads, loading(1), api.ErrSpoilt)
	lay(t, d, 22, body)
	wantLoad(t, "its own body", d, one(100), 4)
}

// P6.7: the label says more sectors than there are
func TestLoadOfASmallDisk(t *testing.T) {
	for _, slot := range []int{0, 1} {
		for _, l := range []api.Label{mixed(), full()} {
			n, _ := label.Sectors(l)
			for _, sectors := range []int{42, n - 1} {
				d := stamped(t, sectors)
				layLabel(t, d, slot, l, 6)
				wantAsked(t, "small", d, loads, loading(slot), api.ErrSmall)
				wantAsked(t, "small, Commit", d, commits(one(0)), loading(slot), api.ErrSmall)
				wantNoLoad(t, "small", d, api.ErrSmall)
				layLabel(t, d, 1-slot, one(max(1, sectors-43)), 5)
				wantNoLoad(t, "small, and the other slot right", d, api.ErrSmall)
			}
			d := stamped(t, n)
			layLabel(t, d, slot, l, 6)
			wantLoad(t, "just large enough", d, l, 6)
		}
	}
}

// P6.7: what waits in the queue is read, and Load changes nothing
func TestLoadOfWhatWaits(t *testing.T) {
	d := stamped(t, 143)
	head, body := plain(one(100), 7)
	lay(t, d, 0, head)
	lay(t, d, 2, body)
	wantAsked(t, "it waits", d, loads, loading(0), api.OK)
	wantLoad(t, "it waits", d, one(100), 7)
}

// P6.8: the operations, in their order, in turn in both slots
func TestCommitAsks(t *testing.T) {
	for _, first := range []api.Label{one(100), mixed()} {
		d := formatted(t, 143, first)
		now := first
		for seq := uint64(1); seq < 5; seq++ {
			next := described(first, string(rune('a'+seq)))
			slot := int(seq+1) % 2
			lay(t, d, 142, bytes.Repeat([]byte{byte(seq)}, 512)) // waits, so that the first barrier is seen
			wantLoad(t, "in force", d, now, seq)
			wantAsked(t, "Commit", d, commits(next), committing(next, seq, slot), api.OK)
			commit(t, d, next)
			now = next
		}
		wantLoad(t, "at last", d, now, 5)
	}
}

// P6.8: all that may be changed in a label
func TestCommitOfOthers(t *testing.T) {
	for _, change := range []func(*api.Export){
		func(e *api.Export) {},
		func(e *api.Export) { e.Name = "other" },
		func(e *api.Export) { e.Desc = "other" },
		func(e *api.Export) { e.Rotational = !e.Rotational },
		func(e *api.Export) { e.ReadOnly = !e.ReadOnly && !e.Private },
		func(e *api.Export) { e.Min, e.Pref = 1, 512 },
		func(e *api.Export) { e.Pref = 32768 },
	} {
		for i := range mixed().Exports {
			d := formatted(t, 90, mixed())
			next := mixed()
			change(&next.Exports[i])
			commit(t, d, next)
			wantLoad(t, "Commit", d, next, 2)
		}
	}
}

// P6.8: ErrShape, and that nothing is written then
func TestCommitOfAnotherShape(t *testing.T) {
	base := labelOf(export("a", 10), tracked(export("b", 10)), with(export("c", 10), func(e *api.Export) { e.Private = true }))
	exports := func(change func([]api.Export) []api.Export) api.Label {
		return labelOf(change(slices.Clone(base.Exports))...)
	}
	for what, l := range map[string]api.Label{
		"one fewer":       exports(func(e []api.Export) []api.Export { return e[:2] }),
		"one more":        exports(func(e []api.Export) []api.Export { return append(e, export("d", 10)) }),
		"more sectors":    exports(func(e []api.Export) []api.Export { e[0].Sectors = 11; return e }),
		"fewer sectors":   exports(func(e []api.Export) []api.Export { e[2].Sectors = 9; return e }),
		"tracked":         exports(func(e []api.Export) []api.Export { e[0].Tracked = true; return e }),
		"tracked no more": exports(func(e []api.Export) []api.Export { e[1].Tracked = false; return e }),
		"private":         exports(func(e []api.Export) []api.Export { e[0].Private = true; return e }),
		"private no more": exports(func(e []api.Export) []api.Export { e[2].Private = false; return e }),
		"another order":   exports(func(e []api.Export) []api.Export { e[0], e[1] = e[1], e[0]; return e }),
	} {
		d := formatted(t, 143, base)
		wantAsked(t, what, d, commits(l), loading(0), api.ErrShape)
	}
	// Two of one shape may change places: nothing but their order says which is which.
	d := formatted(t, 143, labelOf(export("a", 10), export("b", 10)))
	commit(t, d, labelOf(export("b", 10), export("a", 10)))
	wantLoad(t, "turned round", d, labelOf(export("b", 10), export("a", 10)), 2)
}

// P6.8: Check's error goes ahead of the shape, and behind what Load answers
func TestCommitOfAWrongLabel(t *testing.T) {
	d := formatted(t, 143, one(100))
	for _, l := range []api.Label{{}, one(0), one(65479), labelOf(export("a", 100), export("a", 100)), labelOf(export("", 100))} {
		wantAsked(t, "a wrong label", d, commits(l), loading(0), api.ErrLabel)
	}
	layLabel(t, d, 1, one(100), math.MaxInt64)
	wantAsked(t, "a wrong label, at the end", d, commits(one(0)), loading(1), api.ErrLabel)
	wantAsked(t, "another shape, at the end", d, commits(one(99)), loading(1), api.ErrShape)
}

// P6.8: the end of the numbers
func TestCommitAtTheEnd(t *testing.T) {
	for _, slot := range []int{0, 1} {
		d := stamped(t, 143)
		layLabel(t, d, slot, one(100), math.MaxInt64-1)
		last := described(one(100), "last")
		wantAsked(t, "the last one", d, commits(last), committing(last, math.MaxInt64-1, slot), api.OK)
		commit(t, d, last)
		wantLoad(t, "the last one", d, last, math.MaxInt64)
		wantAsked(t, "one more", d, commits(one(100)), loading(1-slot), api.ErrEnd)
		wantErr(t, "Format begins anew", label.Format(d, one(50)), api.OK)
		wantLoad(t, "Format begins anew", d, one(50), 1)
	}
}

// P6.10: in rows of Commits and Formats each number is one above the last
func TestNumbersRise(t *testing.T) {
	d := stamped(t, 143)
	for _, l := range []api.Label{one(100), mixed(), labelOf(tracked(export("x", 90)))} {
		wantErr(t, "Format", label.Format(d, l), api.OK)
		wantLoad(t, "Format", d, l, 1)
		for seq := uint64(2); seq < 20; seq++ {
			next := described(l, string(rune('a'+seq)))
			commit(t, d, next)
			wantLoad(t, "Commit", d, next, seq)
		}
	}
}
