package track_test

import (
	"testing"

	"spindle/api"
	"spindle/disk"
	"spindle/track"
)

// mixtures gives what crashes may keep of a queue of n writes: all that there are, if these are few; else each write alone, all but each, and some that are thrown.
func mixtures(n int, d *dice) [][]bool {
	var out [][]bool
	if n <= 5 {
		for m := range 1 << n {
			out = append(out, keeping(n, func(i int) bool { return m>>i&1 == 1 }))
		}
		return out
	}
	for k := -1; k < n; k++ {
		out = append(out, keeping(n, func(i int) bool { return i == k }), keeping(n, func(i int) bool { return i != k }))
	}
	for range 8 {
		out = append(out, keeping(n, func(int) bool { return d.bool() }))
	}
	return out
}

func keeping(n int, kept func(i int) bool) []bool {
	out := make([]bool, n)
	for i := range out {
		out[i] = kept(i)
	}
	return out
}

// behindCrash gives the small track opened anew, on a copy of a disk that has fallen.
func behindCrash(t *testing.T, d *disk.Disk, keep []bool) *track.Track {
	t.Helper()
	copied := d.Copy()
	copied.Crash(keep)
	return rigOver(t, copied, 4, small()).track
}

// past is what a track has been: its base (P19.5), the array as it is, and of each sector all values that it may have behind a crash: those since it was last told safe.
type past struct {
	base, now []byte
	may       []map[string]bool
}

func pastOf(base, now []byte) *past {
	p := &past{base: base, now: now}
	for s := range len(now) / api.SectorSize {
		p.may = append(p.may, map[string]bool{})
		p.told(s)
	}
	return p
}

// told: a sector was told safe, as it is.
func (p *past) told(s int) { p.may[s] = map[string]bool{string(bytesOf(p.now, s)): true} }

// add: the array is another one, or could have been.
func (p *past) add(array []byte) {
	for s := range p.may {
		p.may[s][string(bytesOf(array, s))] = true
	}
}

// after follows a call of the track and what it answered.
func (p *past) after(t *testing.T, c call, a answer, r rig) {
	t.Helper()
	p.add(c.changed(p.now))
	if a.e != api.OK {
		wantHalfDone(t, c, r.track, p.now, a.at)
	}
	p.now = peekAll(t, r.track)
	p.add(p.now)
	for s := range p.may {
		if a.e == api.OK && (c.name == "flush" || c.name == "clear" || c.name == "sync" && c.touches(s)) {
			p.told(s)
		}
	}
	if c.name == "clear" && a.yes {
		p.base = p.now
	}
	p.wantMarked(t, c.String(), r.track)
}

// wantMarked looks that each sector that differs from the base has its mark (P19.7), and is told to be dirty.
func (p *past) wantMarked(t *testing.T, what string, x *track.Track) {
	t.Helper()
	now := peekAll(t, x)
	for s := range smallCount {
		marked, e := x.Marked(s)
		wantErr(t, what+": Marked", e, api.OK)
		if !marked && string(bytesOf(now, s)) != string(bytesOf(p.base, s)) {
			t.Errorf("%s: sector %d differs from the base and has no mark", what, s)
		}
	}
}

// wantPast lets the machine fall, and looks at each sector: it has one of the values that it may have, and a mark, if it differs from the base; what was told not to be unsaved has the bytes that it has now.
func (p *past) wantPast(t *testing.T, what string, r rig, saved []api.Extent, d *dice) {
	t.Helper()
	for _, keep := range mixtures(len(r.disk.Queue()), d) {
		x := behindCrash(t, r.disk, keep)
		b := peekAll(t, x)
		for s := range p.may {
			if !p.may[s][string(bytesOf(b, s))] {
				t.Fatalf("%s: behind a crash that keeps %v sector %d has what it may not", what, keep, s)
			}
		}
		for _, run := range saved {
			if !run.Unsaved {
				wantBytes(t, what+": what is told to be saved, behind a crash", b[run.Off:][:run.Len], p.now[run.Off:][:run.Len])
			}
		}
		p.wantMarked(t, what+", behind a crash", x)
	}
}

// fresh gives the small track over a fresh place.
func fresh(t *testing.T, lines int) rig {
	t.Helper()
	r := rigOf(t, lines, "", "")
	wantBytes(t, "at first", peekAll(t, r.track), make([]byte, smallSize))
	return r
}

func (r rig) past(t *testing.T) *past {
	t.Helper()
	return pastOf(make([]byte, smallSize), peekAll(t, r.track))
}

// P19.7, P19.8: thrown calls, with and without faults; a crash behind each of them, whatever it keeps
func TestCrashes(t *testing.T) {
	for seed := range 120 {
		d := dice(5000 + seed)
		r := fresh(t, []int{1, 2, 3, 4, 5, 8, 16, 40}[d.below(8)])
		p := r.past(t)
		for range 40 {
			if seed%2 == 1 && d.below(6) == 0 {
				r.disk.Fault(d.throwFault(smallDisk))
			}
			c := d.throwCall()
			a := c.of(t, r.track)
			p.after(t, c, a, r)
			p.wantPast(t, c.String(), r, a.runs, &d)
			if t.Failed() {
				t.Fatal("seed", seed)
			}
		}
	}
}

// story is a run of calls with something of everything.
var story = []call{
	{"write", 0, 600, 1}, {"write", 1500, 700, 2}, {name: "clear"}, {"write", 100, 50, 3}, {"trim", 512, 1536, 0}, {"write", 1024, 512, 4},
	{"sync", 1024, 1, 0}, {"zero", 90, 30, 0}, {"zero", 0, 512, 0}, {"write", 3, 9, 5}, {"extents", 0, 4096, 0}, {"keep", 2000, 1000, 0}, {name: "flush"},
	{"write", 512, 512, 6}, {"sync", 512, 2000, 0}, {"write", 512, 3000, 7}, {name: "clear"}, {"trim", 0, 4096, 0}, {"read", 0, 4096, 0}, {"write", 4000, 96, 8}, {name: "clear"}, {"write", 4000, 9, 9},
}

// P19.7, P19.8: a crash within a call, between any two operations of the disk: each of them fails in its turn, which leaves the disk as it was ahead of it (or with a write that landed); and the story goes on
func TestCrashesWithinCalls(t *testing.T) {
	var d dice
	for _, lines := range []int{1, 2, 4} {
		for at := range story {
			good := fresh(t, lines)
			play(t, good.track, story[:at]...)
			from := good.disk.Stats()
			play(t, good.track, story[at])
			for _, f := range everyFault(from, good.disk.Stats()) {
				tell(t, lines, at, f, &d)
			}
		}
	}
}

// tell makes the story's calls, of which one fails.
func tell(t *testing.T, lines, failing int, f api.Fault, d *dice) {
	t.Helper()
	r := fresh(t, lines)
	p := r.past(t)
	for i, c := range story {
		wanted := api.OK
		if i == failing {
			arm(t, r.disk, f)
			wanted = api.ErrIO
		}
		a := c.of(t, r.track)
		wantErr(t, c.String(), a.e, wanted)
		p.after(t, c, a, r)
		if i == failing || i == failing+1 || i == len(story)-1 {
			p.wantPast(t, c.String(), r, a.runs, d)
		}
	}
}

// P19.7, P19.8: a machine that falls and starts again, and again: the base is what it was, and what differs from it stays marked, through all of it
func TestCrashAfterCrash(t *testing.T) {
	for seed := range 80 {
		d := dice(9000 + seed)
		r := fresh(t, 1+d.below(6))
		p := r.past(t)
		for range 80 {
			if seed%2 == 1 && d.below(12) == 0 {
				r.disk.Fault(d.throwFault(smallDisk))
			}
			c := d.throwCall()
			a := c.of(t, r.track)
			p.after(t, c, a, r)
			if d.below(10) > 0 {
				continue
			}
			r.disk.Crash(keeping(len(r.disk.Queue()), func(int) bool { return d.bool() }))
			r = rigOver(t, r.disk, 1+d.below(6), small())
			b := peekAll(t, r.track)
			for s := range p.may {
				if !p.may[s][string(bytesOf(b, s))] {
					t.Fatalf("seed %d: sector %d has what it may not", seed, s)
				}
			}
			p = pastOf(p.base, b)
			p.wantMarked(t, "started again", r.track)
			if t.Failed() {
				t.Fatal("seed", seed)
			}
		}
	}
}

// P19.7: what Extents tells not to be dirty is what it was when the marks were cleared, now and behind every crash
func TestNotDirty(t *testing.T) {
	for seed := range 40 {
		d := dice(700 + seed)
		r := fresh(t, 1+d.below(6))
		base := peekAll(t, r.track)
		for range 30 {
			c := d.throwCall()
			play(t, r.track, c)
			if c.name == "clear" {
				base = peekAll(t, r.track)
			}
			for _, keep := range mixtures(len(r.disk.Queue()), &d) {
				x := behindCrash(t, r.disk, keep)
				b := peekAll(t, x)
				runs, _, e := x.Extents(0, smallSize)
				wantErr(t, "Extents", e, api.OK)
				for _, run := range runs {
					if !run.Dirty {
						wantBytes(t, "what is not dirty", b[run.Off:][:run.Len], base[run.Off:][:run.Len])
					}
				}
			}
		}
	}
}
