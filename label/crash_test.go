package label_test

import (
	"bytes"
	"slices"
	"strconv"
	"testing"

	"spindle/api"
	"spindle/disk"
	"spindle/label"
)

// mixtures gives what of a queue of n writes a crash may keep: each mixture, if they are few; else none and all, one alone, all but one, each beginning and each end, and some that were thrown.
func mixtures(n int, thrown *dice) [][]bool {
	keep := func(pick func(i int) bool) []bool {
		out := make([]bool, n)
		for i := range out {
			out[i] = pick(i)
		}
		return out
	}
	var out [][]bool
	if n <= 5 {
		for mixture := range 1 << n {
			out = append(out, keep(func(i int) bool { return mixture>>i&1 == 1 }))
		}
		return out
	}
	for at := range n + 1 {
		out = append(out,
			keep(func(i int) bool { return i < at }), keep(func(i int) bool { return i >= at }),
			keep(func(i int) bool { return i == at }), keep(func(i int) bool { return i != at }))
	}
	for range 8 {
		out = append(out, keep(func(int) bool { return thrown.bool() }))
	}
	return out
}

// fallen gives copies of a disk behind crashes that keep all kinds of mixtures of its queue.
func fallen(d *disk.Disk, thrown *dice) []*disk.Disk {
	var out []*disk.Disk
	for _, keep := range mixtures(len(d.Queue()), thrown) {
		c := d.Copy()
		c.Crash(keep)
		out = append(out, c)
	}
	return out
}

// found is what a Load may give.
type found struct {
	label api.Label
	seq   uint64
	err   api.Errno
}

func loadOf(d *disk.Disk) found {
	l, seq, e := label.Load(d)
	return found{l, seq, e}
}

func (f found) same(g found) bool {
	return sameLabel(f.label, g.label) && f.seq == g.seq && f.err == g.err
}

func wantOneOf(t *testing.T, what string, got found, may ...found) {
	t.Helper()
	for _, m := range may {
		if got.same(m) {
			return
		}
	}
	t.Errorf("%s: behind a crash %v, want one of %v", what, got, may)
}

func is(l api.Label, seq uint64) found { return found{label: l, seq: seq} }

// brokenOff lets a call break off at each of its operations, the one at which it fails landing or not, and hands on the disk as it stands then; at last it lets the call go well.
func brokenOff(t *testing.T, d *disk.Disk, asks call, asked ops, look func(what string, at int, d *disk.Disk)) {
	t.Helper()
	for i, o := range asked {
		for _, land := range lands(o) {
			c := d.Copy()
			wantErr(t, "Fault", c.Fault(asked.failing(i, land)), api.OK)
			wantErr(t, "broken off", asks(c), api.ErrIO)
			look("broken off at "+strconv.Itoa(i)+", "+o.String(), i, c)
		}
	}
	c := d.Copy()
	wantErr(t, "not broken off", asks(c), api.OK)
	look("not broken off", len(asked), c)
}

// P6.9, W8: a crash behind every operation of a Commit, in both slots
func TestCrashInACommit(t *testing.T) {
	var thrown dice = 1
	base := mixed()
	d := formatted(t, 95, base)
	now := base
	for seq := uint64(1); seq <= 3; seq++ {
		next := described(base, "number "+strconv.Itoa(int(seq+1)))
		slot := int(seq+1) % 2
		asked := committing(next, seq, slot)
		behind := behindLabel(d)
		brokenOff(t, d, commits(next), asked, func(what string, at int, d *disk.Disk) {
			for _, c := range fallen(d, &thrown) {
				got := loadOf(c)
				switch head := len(asked) - 2; {
				case at < head: // its head was not written
					wantOneOf(t, what, got, is(now, seq))
				case at <= head+1: // its head waits, or was not written
					wantOneOf(t, what, got, is(now, seq), is(next, seq+1))
				default:
					wantOneOf(t, what, got, is(next, seq+1))
				}
				want(t, what+": what lies behind the label", bytes.Equal(behindLabel(c), behind), true)
			}
		})
		commit(t, d, next)
		now = next
	}
}

// P6.9: the label in force may wait in the queue: the Commit behind it makes it safe ahead of the other slot's turning
func TestCrashBehindACommitThatBrokeOff(t *testing.T) {
	var thrown dice = 2
	base := one(50)
	second, third := described(base, "second"), described(base, "third")
	d := formatted(t, 93, base)
	first := committing(second, 1, 0)
	wantErr(t, "Fault", d.Fault(first.failing(len(first)-1, false)), api.OK)
	wantErr(t, "its head waits", label.Commit(d, second), api.ErrIO)
	want(t, "its head waits", d.Waits(1), true)
	asked := committing(third, 2, 1)
	brokenOff(t, d, commits(third), asked, func(what string, at int, d *disk.Disk) {
		for _, c := range fallen(d, &thrown) {
			got := loadOf(c)
			switch behind := len(loading(1)) + 1; {
			case at < behind: // the first barrier was not done
				wantOneOf(t, what, got, is(base, 1), is(second, 2))
			case at < len(asked):
				wantOneOf(t, what, got, is(second, 2), is(third, 3))
			default:
				wantOneOf(t, what, got, is(third, 3))
			}
		}
	})
}

// P6.6, W8: a crash behind every operation of a Format, over disks of all kinds
func TestCrashInAFormat(t *testing.T) {
	var thrown dice = 3
	old := one(50)
	none, spoilt := found{err: api.ErrNone}, found{err: api.ErrSpoilt}
	second, third := described(old, "second"), described(old, "third")
	slotOne := formatted(t, 95, old)
	commit(t, slotOne, second)
	slotZero := slotOne.Copy()
	commit(t, slotZero, third)
	half := slotOne.Copy()
	asked := committing(third, 2, 1)
	wantErr(t, "Fault", half.Fault(asked.failing(len(loading(1))+5, false)), api.OK)
	wantErr(t, "a body half written", label.Commit(half, third), api.ErrIO)
	half.Crash([]bool{true, true, true, true})
	for _, c := range []struct {
		what string
		d    *disk.Disk
		may  []found
	}{
		{"no label", stamped(t, 95), []found{none}},
		{"one slot", formatted(t, 95, old), []found{is(old, 1), none}},
		{"slot 1 in force", slotOne, []found{is(second, 2), is(old, 1), none}},
		{"slot 0 in force", slotZero, []found{is(third, 3), is(second, 2), none}},
		{"the other body half written", half, []found{is(second, 2), spoilt, none}},
	} {
		asked := formatting(mixed(), 42, 43, 60, 68, 69)
		before := c.d.Image()
		brokenOff(t, c.d, formats(mixed()), asked, func(what string, at int, d *disk.Disk) {
			for _, f := range fallen(d, &thrown) {
				wantFormatCrashed(t, c.what+", "+what, f, before, at, len(asked), c.may, none)
			}
		})
	}
}

// wantFormatCrashed: ahead of the first barrier what may be; then no label; with the head the new one; and what is no note or mark is as it was.
func wantFormatCrashed(t *testing.T, what string, d *disk.Disk, before []byte, at, all int, may []found, none found) {
	t.Helper()
	switch got := loadOf(d); {
	case at < 3:
		wantOneOf(t, what, got, may...)
	case at < all-2:
		wantOneOf(t, what, got, none)
	case at < all:
		wantOneOf(t, what, got, none, is(mixed(), 1))
	default:
		wantOneOf(t, what, got, is(mixed(), 1))
	}
	image := d.Image()
	notes := map[int]int{42: 1, 43: 1, 60: 1, 68: 1, 69: 1}
	for n := 42; n < d.Sectors(); n++ {
		is, was := image[512*n:][:512], before[512*n:][:512]
		switch {
		case notes[n] == 0 || at < 3:
			want(t, what+": sector "+strconv.Itoa(n), bytes.Equal(is, was), true)
		case at >= all-2:
			want(t, what+": note sector "+strconv.Itoa(n), bytes.Equal(is, make([]byte, 512)), true)
		}
	}
}

// asItReads gives a copy of a disk on which all that waits is safe, and no fault is armed.
func asItReads(d *disk.Disk) *disk.Disk {
	c := d.Copy()
	var keep []bool
	for range d.Queue() {
		keep = append(keep, true)
	}
	c.Crash(keep)
	return c
}

// armAny arms up to two faults, of operations that a Commit asks for.
func armAny(t *testing.T, d *disk.Disk, thrown *dice) {
	t.Helper()
	for range thrown.below(3) {
		f := api.Fault{Kind: 1 + thrown.below(3), Sector: -1, After: thrown.below(24), Times: 1, Land: thrown.bool()}
		if f.Kind == barring {
			f.After %= 3
		}
		wantErr(t, "Fault", d.Fault(f), api.OK)
	}
}

// P6.9, P6.10: rows of Commits on a disk that fails where it likes, with crashes behind each of them; now and then the row goes on behind one
func TestRowsOfCommits(t *testing.T) {
	for seed := range 40 {
		thrown := dice(1000 + seed)
		base := one(20)
		d := formatted(t, 63, base)
		behind := behindLabel(d)
		may, told := []api.Label{base}, uint64(1)
		for step := range 12 {
			what := "row " + strconv.Itoa(seed) + ", step " + strconv.Itoa(step)
			next := described(base, what)
			ahead := loadOf(asItReads(d))
			armAny(t, d, &thrown)
			if e := label.Commit(d, next); e == api.OK {
				may, told = []api.Label{next}, ahead.seq+1
				wantOneOf(t, what, loadOf(asItReads(d)), is(next, told))
			} else {
				wantErr(t, what, e, api.ErrIO)
				may = append(may, next)
			}
			crashed := fallen(d, &thrown)
			for _, c := range crashed {
				wantOfRow(t, what, loadOf(c), may, told)
				want(t, what+": what lies behind the label", bytes.Equal(behindLabel(c), behind), true)
			}
			if thrown.below(4) == 0 {
				d = crashed[thrown.below(len(crashed))]
				now := loadOf(d)
				may, told = []api.Label{now.label}, now.seq
			}
		}
	}
}

// wantOfRow: the label of the last Commit that went well, or of one begun behind it, and no number below the last one told.
func wantOfRow(t *testing.T, what string, got found, may []api.Label, told uint64) {
	t.Helper()
	begun := slices.ContainsFunc(may, func(l api.Label) bool { return sameLabel(l, got.label) })
	if got.err != api.OK || !begun || got.seq < told || sameLabel(got.label, may[0]) != (got.seq == told) {
		t.Errorf("%s: behind a crash %v, want number %d or a later one of %v", what, got, told, may)
	}
}
