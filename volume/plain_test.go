package volume_test

import (
	"testing"

	"spindle/api"
	"spindle/cache"
)

// plain does what the chapter says over a cache of its own, in the plainest way: of each sector it asks whether the range has its bytes, one by one.
type plain struct {
	cache *cache.Cache
	place api.Place
}

// of makes a call. The range lies in the volume.
func (p plain) of(c call) answer {
	var a answer
	if c.name == "flush" {
		return answer{e: p.cache.Flush()}
	}
	if c.n == 0 {
		return a
	}
	var through []int
	for s := range p.place.Data.Count {
		if !c.touches(s) {
			continue
		}
		through = append(through, p.data(s), p.note(s))
		if p.sector(c, s, &a) != api.OK {
			return answer{at: c.first(s), e: api.ErrIO}
		}
	}
	if c.name == "sync" {
		a.e = p.cache.Through(through)
	}
	return a
}

func (p plain) data(s int) int { return p.place.Data.First + s }

func (p plain) note(s int) int { return p.place.Notes.First + s/4096 }

func (p plain) sector(c call, s int, a *answer) api.Errno {
	switch c.name {
	case "read", "fetch", "peek":
		return p.tell(c, s, a)
	case "write", "keep":
		return p.write(c, s)
	case "zero":
		return p.zero(c, s)
	case "trim":
		if c.covers(s) {
			return p.zero(c, s)
		}
	case "extents":
		return p.extent(c, s, a)
	}
	return api.OK
}

func (p plain) laid(s int) (bool, api.Errno) {
	note, e := p.cache.Read(p.note(s))
	if e != api.OK {
		return false, e
	}
	return bit(note, s), api.OK
}

// bit tells the bit of a sector in its note sector, counted one by one.
func bit(note []byte, s int) bool {
	i := 0
	for _, b := range note {
		for value := 128; value > 0; value /= 2 {
			if i == s%4096 {
				return int(b)/value%2 == 1
			}
			i++
		}
	}
	panic("no such bit")
}

// set gives a sector's bit a value.
func (p plain) set(s int, laid bool) api.Errno {
	note, e := p.cache.Read(p.note(s))
	if e != api.OK {
		return e
	}
	if bit(note, s) != laid {
		note[s%4096/8] ^= []byte{128, 64, 32, 16, 8, 4, 2, 1}[s%8]
	}
	return p.cache.Write(p.note(s), note)
}

func (p plain) tell(c call, s int, a *answer) api.Errno {
	read := p.cache.Read
	if c.name == "peek" {
		read = p.cache.Peek
	}
	note, e := read(p.note(s))
	if e != api.OK {
		return e
	}
	b := make([]byte, api.SectorSize)
	if bit(note, s) {
		if b, e = read(p.data(s)); e != api.OK {
			return e
		}
	}
	for i, x := range b {
		if c.has(s*api.SectorSize+i) && c.name != "fetch" {
			a.bytes = append(a.bytes, x)
		}
	}
	return api.OK
}

func (p plain) write(c call, s int) api.Errno {
	laid, e := p.laid(s)
	if e != api.OK {
		return e
	}
	b := make([]byte, api.SectorSize)
	if laid && !c.covers(s) {
		if b, e = p.cache.Read(p.data(s)); e != api.OK {
			return e
		}
	}
	news := c.bytes()
	for i := range b {
		at := s*api.SectorSize + i
		switch {
		case c.has(at) && c.name == "write":
			b[i] = news[at-int(c.off)]
		case c.has(at):
			b[i] = 0
		}
	}
	e = p.cache.Write(p.data(s), b)
	if e != api.OK || laid {
		return e
	}
	return p.set(s, true)
}

func (p plain) zero(c call, s int) api.Errno {
	laid, e := p.laid(s)
	if e != api.OK || !laid {
		return e
	}
	if c.covers(s) {
		return p.set(s, false)
	}
	b, e := p.cache.Read(p.data(s))
	if e != api.OK {
		return e
	}
	for i := range b {
		if c.has(s*api.SectorSize + i) {
			b[i] = 0
		}
	}
	return p.cache.Write(p.data(s), b)
}

func (p plain) extent(c call, s int, a *answer) api.Errno {
	laid, e := p.laid(s)
	if e != api.OK {
		return e
	}
	unsaved := !p.cache.Safe(p.data(s)) || !p.cache.Safe(p.note(s))
	for i := range api.SectorSize {
		at := s*api.SectorSize + i
		if !c.has(at) {
			continue
		}
		k := len(a.runs) - 1
		if k < 0 || a.runs[k].Hole == laid || a.runs[k].Unsaved != unsaved {
			a.runs = append(a.runs, api.Extent{Off: uint64(at), Hole: !laid, Unsaved: unsaved})
			k++
		}
		a.runs[k].Len++
	}
	return api.OK
}

// thrown is a volume beside a plain one, each over a disk and a cache of its own, both alike.
type thrown struct {
	rig
	twin  rig
	plain plain
	dice  dice
}

func throw(t *testing.T, seed int) thrown {
	t.Helper()
	x := thrown{dice: dice(seed)}
	lines := []int{1, 2, 3, 4, 5, 8, 16, 40}[x.dice.below(8)]
	bits := ""
	for range smallCount {
		bits += string("01"[x.dice.below(2)])
	}
	x.rig, x.twin = rigOf(t, lines, bits), rigOf(t, lines, bits)
	x.plain = plain{x.twin.cache, small()}
	return x
}

// throwCall gives a call whose range is any, or begins and ends at or beside the edges of sectors.
func (d *dice) throwCall(size int) call {
	names := []string{"read", "read", "fetch", "write", "write", "write", "write", "zero", "zero", "keep", "trim", "trim", "sync", "flush", "extents", "extents", "peek"}
	place := func() int {
		if d.bool() {
			return d.below(size + 1)
		}
		at := d.below(size/api.SectorSize+1)*api.SectorSize + d.below(3) - 1
		return max(0, min(size, at))
	}
	a, b := place(), place()
	c := call{name: names[d.below(len(names))], off: uint64(min(a, b)), n: max(a, b) - min(a, b), fill: d.below(1000)}
	if d.below(3) == 0 {
		c.n = min(c.n, d.below(700))
	}
	if c.name == "flush" {
		return call{name: "flush"}
	}
	return c
}

// throwFault gives a fault that comes soon.
func (d *dice) throwFault(sectors int) api.Fault {
	f := api.Fault{Kind: 1 + d.below(3), Sector: -1, After: d.below(6), Times: 1 + d.below(3), Land: d.bool()}
	if d.bool() {
		f.Sector = d.below(sectors)
	}
	return f
}

// P7.3 to P7.10: a volume does what the plain one does, whatever fails: the same answers, lines, counts, queue and bytes
func TestThrown(t *testing.T) {
	io := 0
	for seed := range 400 {
		x := throw(t, seed)
		array := peekAll(t, x.volume)
		for range 60 {
			if x.dice.below(8) == 0 {
				f := x.dice.throwFault(smallDisk)
				x.disk.Fault(f)
				x.twin.disk.Fault(f)
			}
			c := x.dice.throwCall(smallSize)
			a, b := c.of(t, x.volume), x.plain.of(c)
			wantEnd(t, c.String(), a.at, a.e, b.at, b.e)
			wantBytes(t, c.String(), a.bytes, b.bytes)
			want(t, c.String(), words(a.runs), words(b.runs))
			wantLook(t, c.String(), x.disk, x.cache, lookAt(x.twin.disk, x.twin.cache))
			if a.e == api.OK {
				array = c.changed(array)
				wantBytes(t, c.String()+": the array", peekAll(t, x.volume), array)
			} else {
				wantHalfDone(t, c, x.volume, array, a.at)
				array = peekAll(t, x.volume)
				io++
			}
			if t.Failed() {
				t.Fatal("seed", seed)
			}
		}
	}
	if io < 1000 {
		t.Error("only", io, "calls failed")
	}
}

// P7.3 to P7.8: the same over two note sectors, about the last bit of the first one
func TestThrownOverTwoNotes(t *testing.T) {
	const first = 4092
	for seed := range 6 {
		x := thrown{dice: dice(1000 + seed)}
		lines := 1 + x.dice.below(6)
		x.rig, x.twin = big(t, lines, first, 5), big(t, lines, first, 5)
		x.plain = plain{x.twin.cache, placeAt(0, 2, 3, 4100)}
		for range 40 {
			c := x.dice.throwCall(8 * api.SectorSize)
			if c.name == "peek" {
				c.name = "read"
			}
			if c.name != "flush" {
				c.off += first * api.SectorSize
			}
			a, b := c.of(t, x.volume), x.plain.of(c)
			wantEnd(t, c.String(), a.at, a.e, b.at, b.e)
			wantBytes(t, c.String(), a.bytes, b.bytes)
			want(t, c.String(), words(a.runs), words(b.runs))
			wantLook(t, c.String(), x.disk, x.cache, lookAt(x.twin.disk, x.twin.cache))
			if t.Failed() {
				t.Fatal("seed", seed)
			}
		}
	}
}
