package volume_test

import (
	"testing"

	"spindle/api"
	"spindle/disk"
)

// mixtures gives what crashes may keep of a queue of n writes: all that there are, if these are few; else each write alone, all but each, and some that are thrown.
func mixtures(n int, d *dice) [][]bool {
	var out [][]bool
	if n <= 5 {
		for m := range 1 << n {
			out = append(out, keeping(n, func(i int) bool { return m>>i&1 == 1 }))
		}
		return out
	}
	for k := -1; k < n; k++ {
		out = append(out, keeping(n, func(i int) bool { return i == k }), keeping(n, func(i int) bool { return i != k }))
	}
	for range 8 {
		out = append(out, keeping(n, func(int) bool { return d.bool() }))
	}
	return out
}

func keeping(n int, kept func(i int) bool) []bool {
	out := make([]bool, n)
	for i := range out {
		out[i] = kept(i)
	}
	return out
}

// behindCrash tells the bytes of the small volume on a copy of a disk that has fallen.
func behindCrash(t *testing.T, d *disk.Disk, keep []bool) []byte {
	t.Helper()
	copied := d.Copy()
	copied.Crash(keep)
	return peekAll(t, open(t, cacheOver(t, copied, 4, small().Notes), small()))
}

// past is what a volume's sectors may be behind a crash: the array as it is, and of each sector all values since it was last told safe.
type past struct {
	now []byte
	may []map[string]bool
}

func pastOf(array []byte) *past {
	p := &past{now: array}
	for s := range len(array) / api.SectorSize {
		p.may = append(p.may, map[string]bool{})
		p.told(s)
	}
	return p
}

// told: a sector was told safe, as it is.
func (p *past) told(s int) { p.may[s] = map[string]bool{string(bytesOf(p.now, s)): true} }

// add: the array is another one, or could have been.
func (p *past) add(array []byte) {
	for s := range p.may {
		p.may[s][string(bytesOf(array, s))] = true
	}
}

// after follows a call of the volume and what it answered.
func (p *past) after(t *testing.T, c call, a answer, r rig) {
	t.Helper()
	p.add(c.changed(p.now))
	if a.e != api.OK {
		wantHalfDone(t, c, r.volume, p.now, a.at)
	}
	p.now = peekAll(t, r.volume)
	p.add(p.now)
	for s := range p.may {
		if a.e == api.OK && (c.name == "flush" || c.name == "sync" && c.touches(s)) {
			p.told(s)
		}
	}
}

// wantPast lets the machine fall, and looks at each sector: it has one of the values that it may have; and what was told not to be unsaved has those that it has now.
func (p *past) wantPast(t *testing.T, what string, r rig, saved []api.Extent, d *dice) {
	t.Helper()
	for _, keep := range mixtures(len(r.disk.Queue()), d) {
		b := behindCrash(t, r.disk, keep)
		for s := range p.may {
			if !p.may[s][string(bytesOf(b, s))] {
				t.Fatalf("%s: behind a crash that keeps %v sector %d has what it may not", what, keep, s)
			}
		}
		for _, run := range saved {
			if !run.Unsaved {
				wantBytes(t, what+": what is told to be saved, behind a crash", b[run.Off:][:run.Len], p.now[run.Off:][:run.Len])
			}
		}
	}
}

// P7.11: thrown calls, with and without faults; a crash behind each of them, whatever it keeps
func TestCrashes(t *testing.T) {
	for seed := range 120 {
		x := throw(t, 5000+seed)
		p := pastOf(peekAll(t, x.volume))
		for range 40 {
			if seed%2 == 1 && x.dice.below(6) == 0 {
				x.disk.Fault(x.dice.throwFault(smallDisk))
			}
			c := x.dice.throwCall(smallSize)
			a := c.of(t, x.volume)
			p.after(t, c, a, x.rig)
			p.wantPast(t, c.String(), x.rig, a.runs, &x.dice)
			if t.Failed() {
				t.Fatal("seed", seed)
			}
		}
	}
}

// story is a run of calls with something of everything.
var story = []call{
	{"write", 0, 600, 1}, {"write", 1500, 700, 2}, {"flush", 0, 0, 0}, {"write", 100, 50, 3}, {"trim", 512, 1536, 0}, {"write", 1024, 512, 4},
	{"sync", 1024, 1, 0}, {"zero", 90, 30, 0}, {"zero", 0, 512, 0}, {"write", 3, 9, 5}, {"extents", 0, 4096, 0}, {"keep", 2000, 1000, 0},
	{"write", 512, 512, 6}, {"sync", 512, 2000, 0}, {"write", 512, 3000, 7}, {"trim", 0, 4096, 0}, {"read", 0, 4096, 0}, {"write", 4000, 96, 8}, {"flush", 0, 0, 0},
}

// P7.11: a crash within a call, between any two operations of the disk: each of them fails in its turn, which leaves the disk as it was ahead of it (or with a write that landed); and the story goes on
func TestCrashesWithinCalls(t *testing.T) {
	var d dice
	for _, lines := range []int{1, 2, 4} {
		for at := range story {
			good := rigOf(t, lines, "01100110")
			play(t, good.volume, story[:at]...)
			from := good.disk.Stats()
			play(t, good.volume, story[at])
			for _, f := range everyFault(from, good.disk.Stats()) {
				tell(t, lines, at, f, &d)
			}
		}
	}
}

// tell makes the story's calls, of which one fails.
func tell(t *testing.T, lines, failing int, f api.Fault, d *dice) {
	t.Helper()
	r := rigOf(t, lines, "01100110")
	p := pastOf(peekAll(t, r.volume))
	for i, c := range story {
		wanted := api.OK
		if i == failing {
			arm(t, r.disk, f)
			wanted = api.ErrIO
		}
		a := c.of(t, r.volume)
		wantErr(t, c.String(), a.e, wanted)
		p.after(t, c, a, r)
		if i == failing || i == len(story)-1 {
			p.wantPast(t, c.String(), r, a.runs, d)
		}
	}
}

// P7.11: a machine that falls and starts again, and again: what was told safe stays, through all of it
func TestCrashAfterCrash(t *testing.T) {
	for seed := range 60 {
		x := throw(t, 9000+seed)
		p := pastOf(peekAll(t, x.volume))
		for range 80 {
			c := x.dice.throwCall(smallSize)
			a := c.of(t, x.volume)
			p.after(t, c, a, x.rig)
			if x.dice.below(10) > 0 {
				continue
			}
			keep := keeping(len(x.disk.Queue()), func(int) bool { return x.dice.bool() })
			x.disk.Crash(keep)
			x.cache = cacheOver(t, x.disk, 1+x.dice.below(6), small().Notes)
			x.volume = open(t, x.cache, small())
			b := peekAll(t, x.volume)
			for s := range p.may {
				if !p.may[s][string(bytesOf(b, s))] {
					t.Fatalf("seed %d: sector %d has what it may not", seed, s)
				}
			}
			p = pastOf(b)
		}
	}
}

// P7.7, P7.11: what Sync and Flush tell to be safe is there, whatever is lost
func TestToldSafe(t *testing.T) {
	for _, lines := range []int{1, 2, 5, 16} {
		r := rigOf(t, lines, "01100110")
		play(t, r.volume, call{"write", 700, 700, 1}, call{"write", 3000, 10, 2})
		play(t, r.volume, call{"sync", 1024, 1, 0})
		array := peekAll(t, r.volume)
		b := behindCrash(t, r.disk, nil)
		wantBytes(t, "the sector that was named", bytesOf(b, 2), bytesOf(array, 2))
		play(t, r.volume, call{"write", 0, 4096, 3}, call{"trim", 512, 1024, 0}, call{"flush", 0, 0, 0})
		array = peekAll(t, r.volume)
		wantBytes(t, "all", behindCrash(t, r.disk, nil), array)
		play(t, r.volume, call{"write", 0, 4096, 4})
		wantErr(t, "Sync", r.volume.Sync(0, 513), api.OK)
		now := peekAll(t, r.volume)
		wantBytes(t, "the first two", behindCrash(t, r.disk, nil)[:1024], now[:1024])
	}
}

// P7.7: a Sync or Flush that fails has told nothing to be safe, and what failed is done by the next one
func TestSyncAndFlushThatFail(t *testing.T) {
	for _, name := range []string{"sync", "flush"} {
		c := call{name, 0, smallSize, 0}
		for _, f := range []api.Fault{{Kind: writing, Sector: -1, Times: 1}, {Kind: writing, Sector: smallNote, Times: 1}, {Kind: barring, Sector: -1, Times: 1}, {Kind: barring, Sector: -1, After: 1, Times: 1}} {
			r := rigOf(t, 16, "00000000")
			play(t, r.volume, call{"write", 100, 1000, 1})
			array := peekAll(t, r.volume)
			arm(t, r.disk, f)
			a := c.of(t, r.volume)
			wantEnd(t, c.String(), a.at, a.e, 0, api.ErrIO)
			wantBytes(t, "the array", peekAll(t, r.volume), array)
			play(t, r.volume, c)
			wantBytes(t, "behind a crash", behindCrash(t, r.disk, nil), array)
		}
	}
}
