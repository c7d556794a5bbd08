package overlay_test

import (
	"slices"
	"testing"

	"spindle/api"
	"spindle/overlay"
)

func wantNumbers(t *testing.T, what string, got []int, wanted ...int) {
	t.Helper()
	if !slices.Equal(got, wanted) {
		t.Errorf("%s: sheets %v, want %v", what, got, wanted)
	}
}

func numbers(o *overlay.Overlay) []int { return slices.Collect(o.Sheets()) }

// P20.8: the numbers rise, in whatever order the sheets were laid, and each is told once
func TestSheetsRise(t *testing.T) {
	d := stamped(t, 80)
	layOnDisk(t, d, 0, make([]byte, 512))
	o := over(t, open(t, cacheOver(t, d, 4, span(0, 1)), api.Place{Notes: span(0, 1), Data: span(1, 70)}))
	var wanted []int
	for i := range 70 {
		s := (i*29 + 11) % 70
		wanted = append(wanted, s)
		slices.Sort(wanted)
		for range 2 {
			play(t, o, call{"write", uint64(s)*512 + 3, 5, i})
		}
		wantNumbers(t, "Sheets", numbers(o), wanted...)
	}
	want(t, "Drop", o.Drop(), 70)
}

// R6: left early, gone through again, nested
func TestSheetsInParts(t *testing.T) {
	o := rigOf(t, 2, full, "-lh--lh-").overlay
	sheets := o.Sheets()
	for n := range 5 {
		var told []int
		for s := range sheets {
			if len(told) == n {
				break
			}
			told = append(told, s)
		}
		wantNumbers(t, "left early", told, []int{1, 2, 5, 6}[:n]...)
	}
	wantNumbers(t, "again", slices.Collect(sheets), 1, 2, 5, 6)
	var outer, inner []int
	for s := range sheets {
		outer = append(outer, s)
		for r := range sheets {
			inner = append(inner, r)
			if r > s {
				break
			}
		}
	}
	wantNumbers(t, "the outer one", outer, 1, 2, 5, 6)
	wantNumbers(t, "the inner ones", inner, 1, 2, 1, 2, 5, 1, 2, 5, 6, 1, 2, 5, 6)
}

// R6: what there was when the ranging began, not when the iterator was asked for
func TestSheetsOfNow(t *testing.T) {
	o := rigOf(t, 2, full, bare).overlay
	sheets := o.Sheets()
	wantNumbers(t, "at first", slices.Collect(sheets))
	play(t, o, call{"write", 1024, 512, 1}, call{"trim", 0, 512, 0})
	wantNumbers(t, "with two", slices.Collect(sheets), 0, 2)
	want(t, "Drop", o.Drop(), 2)
	wantNumbers(t, "behind Drop", slices.Collect(sheets))
	play(t, o, call{"zero", 3584, 512, 0})
	wantNumbers(t, "with one", slices.Collect(sheets), 7)
}

// R6: what the body does is not seen by the ranging, and is done
func TestSheetsWhileTheyChange(t *testing.T) {
	for _, x := range []struct {
		what   string
		do     func(t *testing.T, o *overlay.Overlay, s int)
		behind string
	}{
		{"writes ahead and behind", func(t *testing.T, o *overlay.Overlay, s int) {
			play(t, o, call{"write", 0, 10, 1}, call{"write", uint64(s+1) * 512, 512, 1})
		}, "llll-ll-"},
		{"trims all", func(t *testing.T, o *overlay.Overlay, s int) { play(t, o, call{"trim", 0, smallSize, 0}) }, "hhhhhhhh"},
		{"drops", func(t *testing.T, o *overlay.Overlay, s int) { o.Drop() }, bare},
		{"drops and writes", func(t *testing.T, o *overlay.Overlay, s int) {
			o.Drop()
			play(t, o, call{"write", 2048, 512, 1})
		}, "----l---"},
	} {
		o := rigOf(t, 2, full, "-lh--l--").overlay
		var told []int
		for s := range o.Sheets() {
			told = append(told, s)
			x.do(t, o, s)
		}
		wantNumbers(t, x.what, told, 1, 2, 5)
		wantSheets(t, x.what, o, x.behind)
	}
}

// P20.8: Drop of none, of one and of several; what is read behind it is the volume's, and from then on all is as at first
func TestDrop(t *testing.T) {
	for _, x := range []struct {
		sheets string
		many   int
	}{{bare, 0}, {"---h----", 1}, {"l-------", 1}, {"-lh--lh-", 4}, {"llllhhhh", 8}} {
		r := rigOf(t, 2, "01100101", x.sheets)
		below := peekAll(t, r.volume)
		armAll(t, r.disk)
		before := r.look()
		want(t, "Drop", r.overlay.Drop(), x.many)
		r.wantLook(t, "Drop", before)
		wantSheets(t, "Drop", r.overlay, bare)
		want(t, "Drop again", r.overlay.Drop(), 0)
		wantBytes(t, "Peek behind Drop", peekAll(t, r.overlay), below)
		r = rigOf(t, 2, "01100101", x.sheets)
		r.overlay.Drop()
		wantRead(t, r.overlay, 0, below)
		play(t, r.overlay, call{"write", 700, 10, 3})
		wantSheets(t, "a write behind Drop", r.overlay, "-l------")
		wantBytes(t, "a write behind Drop", peekAll(t, r.overlay), call{"write", 700, 10, 3}.changed(below))
	}
}
