package track_test

import (
	"testing"

	"spindle/api"
	"spindle/volume"
)

// plain does what the chapter says over a cache and a volume of its own, in the plainest way: of each sector it asks whether the range has its bytes, one by one.
type plain struct {
	rig
	volume *volume.Volume
}

// of makes a call. The range lies in the track.
func (p plain) of(t *testing.T, c call) answer {
	t.Helper()
	switch {
	case c.changes():
		if a := p.mark(c); a.e != api.OK {
			return a
		}
	case c.name == "extents":
		return p.extents(t, c)
	case c.name == "clear":
		return p.clear()
	case c.name == "marked":
		b, e := p.cache.Peek(p.markSector(c.n))
		return answer{yes: bit(b, c.n), e: e}
	}
	return c.of(t, p.volume)
}

func (p plain) markSector(s int) int { return p.place.Marks.First + s/4096 }

// bit tells the bit of a sector in its mark sector, counted one by one.
func bit(b []byte, s int) bool {
	i := 0
	for _, x := range b {
		for value := 128; value > 0; value /= 2 {
			if i == s%4096 {
				return int(x)/value%2 == 1
			}
			i++
		}
	}
	panic("no such bit")
}

func (p plain) mark(c call) answer {
	var sectors []int
	for s := range p.place.Data.Count {
		if !c.marks(s) {
			continue
		}
		b, e := p.cache.Read(p.markSector(s))
		if e == api.OK && !bit(b, s) {
			b[s%4096/8] += []byte{128, 64, 32, 16, 8, 4, 2, 1}[s%8]
			e = p.cache.Write(p.markSector(s), b)
		}
		if e != api.OK {
			return answer{at: c.first(s), e: api.ErrIO}
		}
		sectors = append(sectors, p.markSector(s))
	}
	safe := true
	for _, n := range sectors {
		safe = safe && p.cache.Safe(n)
	}
	if !safe && p.cache.Through(sectors) != api.OK {
		return answer{at: c.off, e: api.ErrIO}
	}
	return answer{}
}

func (p plain) extents(t *testing.T, c call) answer {
	t.Helper()
	told := c.of(t, p.volume)
	var a answer
	for s := range p.place.Data.Count {
		if told.e != api.OK || !c.touches(s) {
			continue
		}
		b, e := p.cache.Read(p.markSector(s))
		if e != api.OK {
			return answer{at: c.first(s), e: api.ErrIO}
		}
		for i := range api.SectorSize {
			if at := s*api.SectorSize + i; c.has(at) {
				a.runs = lengthen(a.runs, told.runs, uint64(at), bit(b, s))
			}
		}
	}
	a.at, a.e = told.at, told.e
	return a
}

// lengthen lays one byte behind runs.
func lengthen(runs, told []api.Extent, at uint64, dirty bool) []api.Extent {
	next := api.Extent{Off: at, Dirty: dirty}
	for _, r := range told {
		if at >= r.Off && at < r.Off+r.Len {
			next.Hole, next.Unsaved = r.Hole, r.Unsaved
		}
	}
	k := len(runs) - 1
	if k < 0 || runs[k].Hole != next.Hole || runs[k].Unsaved != next.Unsaved || runs[k].Dirty != next.Dirty {
		runs = append(runs, next)
		k++
	}
	runs[k].Len++
	return runs
}

func (p plain) clear() answer {
	if e := p.volume.Flush(); e != api.OK {
		return answer{e: api.ErrIO}
	}
	for n := p.place.Marks.First; n < p.place.Marks.First+p.place.Marks.Count; n++ {
		b, e := p.cache.Read(n)
		sum := 0
		for _, x := range b {
			sum += int(x)
		}
		if e == api.OK && sum > 0 {
			e = p.cache.Write(n, make([]byte, api.SectorSize))
		}
		if e != api.OK {
			return answer{yes: true, e: api.ErrIO}
		}
	}
	return answer{yes: true, e: p.volume.Flush()}
}

// thrown is a track beside a plain one, each over a disk and a cache of its own, both alike.
type thrown struct {
	rig
	plain plain
	dice  dice
}

func throw(t *testing.T, seed int) thrown {
	t.Helper()
	x := thrown{dice: dice(seed)}
	lines := []int{1, 2, 3, 4, 5, 8, 16, 40}[x.dice.below(8)]
	var bits, marks string
	for range smallCount {
		bits += string("01"[x.dice.below(2)])
		marks += string("01"[x.dice.below(2)])
	}
	x.rig = rigOf(t, lines, bits, marks)
	twin := rigOf(t, lines, bits, marks)
	x.plain = plain{twin, twin.volume(t)}
	return x
}

// throwCall gives a call of a track of 8 sectors whose range is any, or begins and ends at or beside the edges of sectors.
func (d *dice) throwCall() call {
	names := []string{"read", "fetch", "write", "write", "write", "write", "zero", "zero", "keep", "trim", "trim", "sync", "flush", "extents", "extents", "peek", "clear", "marked"}
	place := func() int {
		if d.bool() {
			return d.below(smallSize + 1)
		}
		at := d.below(smallCount+1)*api.SectorSize + d.below(3) - 1
		return max(0, min(smallSize, at))
	}
	a, b := place(), place()
	c := call{name: names[d.below(len(names))], off: uint64(min(a, b)), n: max(a, b) - min(a, b), fill: d.below(1000)}
	if d.below(3) == 0 {
		c.n = min(c.n, d.below(700))
	}
	switch c.name {
	case "flush", "clear":
		return call{name: c.name}
	case "marked":
		return call{name: c.name, n: d.below(smallCount)}
	}
	return c
}

// throwFault gives a fault that comes soon.
func (d *dice) throwFault(sectors int) api.Fault {
	f := api.Fault{Kind: 1 + d.below(3), Sector: -1, After: d.below(6), Times: 1 + d.below(3), Land: d.bool()}
	if d.bool() {
		f.Sector = d.below(sectors)
	}
	return f
}

// wantAlike makes a call of both, and looks that the same comes of it.
func (x *thrown) wantAlike(t *testing.T, c call) answer {
	t.Helper()
	a := c.of(t, x.track)
	wantAnswer(t, c.String(), a, x.plain.of(t, c))
	x.wantLook(t, c.String(), x.plain.look())
	return a
}

// P19.2 to P19.6, P19.8: a track does what the plain one does, whatever fails: the same answers, lines, counts, queue and bytes
func TestThrown(t *testing.T) {
	io := 0
	for seed := range 400 {
		x := throw(t, seed)
		array := peekAll(t, x.track)
		for range 60 {
			if x.dice.below(8) == 0 {
				f := x.dice.throwFault(smallDisk)
				x.disk.Fault(f)
				x.plain.disk.Fault(f)
			}
			c := x.dice.throwCall()
			a := x.wantAlike(t, c)
			if a.e == api.OK {
				array = c.changed(array)
				wantBytes(t, c.String()+": the array", peekAll(t, x.track), array)
			} else {
				wantHalfDone(t, c, x.track, array, a.at)
				array = peekAll(t, x.track)
				io++
			}
			if t.Failed() {
				t.Fatal("seed", seed)
			}
		}
	}
	if io < 1000 {
		t.Error("only", io, "calls failed")
	}
}

// P19.3 to P19.6: the same over two mark sectors, about the last mark of the first one
func TestThrownOverTwoMarkSectors(t *testing.T) {
	const first = 4092
	for seed := range 6 {
		x := thrown{dice: dice(1000 + seed)}
		lines := 1 + x.dice.below(6)
		x.rig = big(t, lines)
		twin := big(t, lines)
		x.plain = plain{twin, twin.volume(t)}
		for range 40 {
			c := x.dice.throwCall()
			switch c.name {
			case "peek":
				c.name = "read"
			case "marked":
				c.n += first
			}
			if c.name != "flush" && c.name != "clear" {
				c.off += first * api.SectorSize
			}
			x.wantAlike(t, c)
			if t.Failed() {
				t.Fatal("seed", seed)
			}
		}
	}
}

// R5: two rigs that are asked alike answer alike
func TestAgain(t *testing.T) {
	for seed := range 20 {
		x, y := throw(t, 300+seed), throw(t, 300+seed)
		for range 50 {
			c := x.dice.throwCall()
			wantAnswer(t, c.String(), c.of(t, x.track), c.of(t, y.track))
			x.wantLook(t, c.String(), y.look())
		}
	}
}
