package overlay_test

import (
	"testing"

	"spindle/api"
	"spindle/volume"
)

// plain does what the chapter says over a volume of its own, in the plainest way: of each sector it asks whether the range has its bytes, one by one.
type plain struct {
	volume *volume.Volume
	kinds  [smallCount]byte // l, h, or 0 if it has no sheet
	data   [smallCount][api.SectorSize]byte
}

// of makes a call. The range lies in the volume.
func (p *plain) of(c call) answer {
	var a answer
	switch c.name {
	case "drop":
		for s := range p.kinds {
			if p.kinds[s] != 0 {
				a.many++
			}
			p.kinds[s] = 0
		}
		return a
	case "sync", "flush":
		return a
	}
	for s := range p.kinds {
		if c.touches(s) && p.sector(c, s, &a) != api.OK {
			return answer{at: c.first(s), e: api.ErrIO}
		}
	}
	return a
}

func (p *plain) sector(c call, s int, a *answer) api.Errno {
	switch c.name {
	case "read", "peek":
		return p.tell(c, s, a)
	case "fetch":
		if p.kinds[s] == 0 {
			_, e := p.volume.Fetch(uint64(s)*api.SectorSize, api.SectorSize)
			return e
		}
	case "write", "keep":
		return p.write(c, s)
	case "zero":
		if !c.covers(s) {
			return p.write(c, s)
		}
		p.kinds[s] = 'h'
	case "trim":
		if c.covers(s) {
			p.kinds[s] = 'h'
		}
	case "extents":
		return p.extent(c, s, a)
	}
	return api.OK
}

func (p *plain) take(c call, s int) ([api.SectorSize]byte, api.Errno) {
	var out [api.SectorSize]byte
	switch p.kinds[s] {
	case 'l':
		return p.data[s], api.OK
	case 'h':
		return out, api.OK
	}
	if c.name == "peek" {
		b, e := p.volume.Peek(uint64(s)*api.SectorSize, api.SectorSize)
		copy(out[:], b)
		return out, e
	}
	b, _, e := p.volume.Read(uint64(s)*api.SectorSize, api.SectorSize)
	copy(out[:], b)
	return out, e
}

func (p *plain) tell(c call, s int, a *answer) api.Errno {
	b, e := p.take(c, s)
	for i, x := range b {
		if e == api.OK && c.has(s*api.SectorSize+i) {
			a.bytes = append(a.bytes, x)
		}
	}
	return e
}

func (p *plain) write(c call, s int) api.Errno {
	var b [api.SectorSize]byte
	if !c.covers(s) {
		taken, e := p.take(c, s)
		if e != api.OK {
			return e
		}
		b = taken
	}
	news := c.bytes()
	for i := range b {
		at := s*api.SectorSize + i
		switch {
		case c.has(at) && c.name == "write":
			b[i] = news[at-int(c.off)]
		case c.has(at):
			b[i] = 0
		}
	}
	p.kinds[s], p.data[s] = 'l', b
	return api.OK
}

func (p *plain) extent(c call, s int, a *answer) api.Errno {
	hole, unsaved := p.kinds[s] == 'h', true
	if p.kinds[s] == 0 {
		runs, _, e := p.volume.Extents(uint64(s)*api.SectorSize, api.SectorSize)
		if e != api.OK {
			return e
		}
		hole, unsaved = runs[0].Hole, runs[0].Unsaved
	}
	for i := range api.SectorSize {
		at := s*api.SectorSize + i
		if !c.has(at) {
			continue
		}
		k := len(a.runs) - 1
		if k < 0 || a.runs[k].Hole != hole || a.runs[k].Unsaved != unsaved {
			a.runs = append(a.runs, api.Extent{Off: uint64(at), Hole: hole, Unsaved: unsaved})
			k++
		}
		a.runs[k].Len++
	}
	return api.OK
}

// sheets tells which there are, in the letters of laySheets.
func (p *plain) sheets() string {
	out := ""
	for _, kind := range p.kinds {
		if kind == 0 {
			kind = '-'
		}
		out += string(kind)
	}
	return out
}

// thrown is an overlay beside a plain one, each over a volume, a cache and a disk of its own, both alike.
type thrown struct {
	rig
	twin  rig
	plain plain
	dice  dice
}

func throw(t *testing.T, seed int) *thrown {
	t.Helper()
	x := &thrown{dice: dice(seed)}
	lines := []int{1, 2, 3, 4, 5, 8, 16, 40}[x.dice.below(8)]
	bits := ""
	for range smallCount {
		bits += string("01"[x.dice.below(2)])
	}
	x.rig, x.twin = rigOf(t, lines, bits, bare), rigOf(t, lines, bits, bare)
	x.plain.volume = x.twin.volume
	return x
}

// throwCall gives a call of an overlay of 8 sectors whose range is any, or begins and ends at or beside the edges of sectors.
func (d *dice) throwCall() call {
	names := []string{"read", "read", "fetch", "write", "write", "write", "write", "zero", "zero", "zero", "keep", "trim", "trim", "sync", "flush", "extents", "extents", "peek", "drop"}
	place := func() int {
		if d.bool() {
			return d.below(smallSize + 1)
		}
		at := d.below(smallCount+1)*api.SectorSize + d.below(3) - 1
		return max(0, min(smallSize, at))
	}
	a, b := place(), place()
	c := call{name: names[d.below(len(names))], off: uint64(min(a, b)), n: max(a, b) - min(a, b), fill: d.below(1000)}
	if d.bool() {
		c.n = min(c.n, d.below(700))
	}
	if c.name == "flush" || c.name == "drop" {
		return call{name: c.name}
	}
	return c
}

// throwFault gives a fault that comes soon.
func (d *dice) throwFault() api.Fault {
	f := api.Fault{Kind: 1 + d.below(3), Sector: -1, After: d.below(4), Times: 1 + d.below(3), Land: d.bool()}
	if d.bool() {
		f.Sector = d.below(smallDisk)
	}
	return f
}

// disturb lets something happen below both, now and then: a fault, or a call of the volume by another one.
func (x *thrown) disturb(t *testing.T) {
	t.Helper()
	switch x.dice.below(8) {
	case 0, 1:
		f := x.dice.throwFault()
		x.disk.Fault(f)
		x.twin.disk.Fault(f)
	case 2:
		c := x.dice.throwCall()
		if c.name != "drop" {
			wantAnswer(t, c.String()+" of the volume", c.of(t, x.volume), c.of(t, x.twin.volume))
		}
	}
}

// P20.3 to P20.9: an overlay does what the plain one does, whatever fails: the same answers and sheets, and the same lines, counts, queue and bytes below; the volume's bytes stay
func TestThrown(t *testing.T) {
	io := 0
	for seed := range 400 {
		x := throw(t, seed)
		for range 60 {
			x.disturb(t)
			below := peekAll(t, x.volume)
			c := x.dice.throwCall()
			a := c.of(t, x.overlay)
			wantAnswer(t, c.String(), a, x.plain.of(c))
			x.wantLook(t, c.String(), x.twin.look())
			wantSheets(t, c.String(), x.overlay, x.plain.sheets())
			wantBytes(t, c.String()+": the array", peekAll(t, x.overlay), x.plain.of(call{name: "peek", n: smallSize}).bytes)
			wantBytes(t, c.String()+": the volume", peekAll(t, x.volume), below)
			if a.e != api.OK {
				io++
			}
			if t.Failed() {
				t.Fatal("seed", seed)
			}
		}
	}
	if io < 600 {
		t.Error("only", io, "calls failed")
	}
}

// P20.9: an array that each call changes as its name says; a call that failed has changed the sectors ahead of the one at fault, and no other
func TestThrownArray(t *testing.T) {
	for seed := range 200 {
		x := throw(t, 9000+seed)
		array, below := peekAll(t, x.overlay), peekAll(t, x.volume)
		wantBytes(t, "at first", array, below)
		for range 60 {
			if x.dice.below(4) == 0 {
				x.disk.Fault(x.dice.throwFault())
			}
			c := x.dice.throwCall()
			a := c.of(t, x.overlay)
			switch {
			case a.e != api.OK:
				array = upTo(c.changed(array), array, int(a.at)/api.SectorSize)
			case c.name == "drop":
				array = below
			case c.name == "read" || c.name == "peek":
				wantBytes(t, c.String(), a.bytes, array[c.off:][:c.n])
			default:
				array = c.changed(array)
			}
			wantBytes(t, c.String()+": the array", peekAll(t, x.overlay), array)
			wantBytes(t, c.String()+": the volume", peekAll(t, x.volume), below)
			if t.Failed() {
				t.Fatal("seed", seed)
			}
		}
	}
}

// R5: two rigs that are asked alike answer alike
func TestAgain(t *testing.T) {
	for seed := range 20 {
		x, y := throw(t, 300+seed), throw(t, 300+seed)
		for range 50 {
			c := x.dice.throwCall()
			wantAnswer(t, c.String(), c.of(t, x.overlay), c.of(t, y.overlay))
			x.wantLook(t, c.String(), y.look())
			wantSheets(t, c.String(), x.overlay, sheetsOf(t, y.overlay))
		}
	}
}
