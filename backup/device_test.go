package backup_test

import (
	"fmt"
	"testing"

	"spindle/api"
	"spindle/backup"
	"spindle/cache"
	"spindle/disk"
	"spindle/label"
	"spindle/overlay"
	"spindle/track"
	"spindle/volume"
)

// shop is a tracked export of a disk, of which backups are taken.
type shop struct {
	t     *testing.T
	d     *dice
	disk  *disk.Disk
	place api.Place
	track *track.Track
	chain []archive
}

const shopSectors = 12

func newShop(t *testing.T, d *dice) *shop {
	t.Helper()
	l := api.Label{Exports: []api.Export{{Name: "a", Sectors: shopSectors, Min: 1, Pref: 512, Tracked: true}}}
	places, e := label.Layout(l)
	wantErr(t, "Layout", e, api.OK)
	sectors, e := label.Sectors(l)
	wantErr(t, "Sectors", e, api.OK)
	made, e := disk.New(sectors)
	wantErr(t, "the disk", e, api.OK)
	wantErr(t, "Format", label.Format(made, l), api.OK)
	s := &shop{t: t, d: d, disk: made, place: places[0]}
	s.open()
	return s
}

func (s *shop) open() {
	s.t.Helper()
	c, e := cache.New(s.disk, 1+s.d.below(6), []api.Span{s.place.Notes})
	wantErr(s.t, "the cache", e, api.OK)
	s.track, e = track.Open(c, s.place)
	wantErr(s.t, "the track", e, api.OK)
}

// change does one thing that is thrown; the disk fails now and then.
func (s *shop) change() {
	s.t.Helper()
	const size = 512 * shopSectors
	off := s.d.below(size)
	n := 1 + s.d.below(min(1200, size-off))
	if s.d.below(6) == 0 {
		fault := api.Fault{Kind: pick(s.d, api.FaultRead, api.FaultWrite, api.FaultBarrier), Sector: -1, After: s.d.below(4), Times: 1}
		wantErr(s.t, "Fault", s.disk.Fault(fault), api.OK)
	}
	switch s.d.below(6) {
	case 0:
		s.track.Trim(uint64(off), uint64(n))
	case 1:
		s.track.Zero(uint64(off), uint64(n), s.d.bool())
	case 2:
		s.track.Flush()
	default:
		s.track.Write(uint64(off), []byte(text(n + off))[off:])
	}
}

// fall lets the machine fall and start again.
func (s *shop) fall() {
	s.t.Helper()
	keep := make([]bool, len(s.disk.Queue()))
	for n := range keep {
		keep[n] = s.d.bool()
	}
	s.disk.Crash(keep)
	s.open()
}

// quiet lets the faults that are armed pass.
func (s *shop) quiet() {
	s.t.Helper()
	for range 1000 {
		if len(s.disk.Faults()) == 0 {
			return
		}
		s.disk.Read(0)
		b, _ := s.disk.Read(0)
		if len(b) > 0 {
			s.disk.Write(0, b)
		}
		s.disk.Barrier()
	}
	s.t.Fatal("a fault does not pass")
}

// look reads the device and its extents.
func (s *shop) look() ([]byte, []extent) {
	s.t.Helper()
	b, _, e := s.track.Read(0, int(s.track.Size()))
	wantErr(s.t, "Read", e, api.OK)
	l, _, e := s.track.Extents(0, s.track.Size())
	wantErr(s.t, "Extents", e, api.OK)
	return b, l
}

// back takes a backup: of what was changed since the last one, or of all; the marks are cleared behind it.
func (s *shop) back() []byte {
	s.t.Helper()
	s.quiet()
	b, l := s.look()
	id, parent := uint64(len(s.chain)+1), uint64(len(s.chain))
	a, e := holdMake(s.t, "a backup", id, parent, b, l)
	wantErr(s.t, "a backup", e, api.OK)
	s.chain = append(s.chain, a)
	_, e = s.track.Clear()
	wantErr(s.t, "Clear", e, api.OK)
	return b
}

// P25.8, W11: a device whose extents come of a track, whatever is done to it in between, crashes and faults among it.
func TestBackupsOfATrack(t *testing.T) {
	met := map[string]int{}
	for seed := range 80 {
		d := dice(seed)
		s := newShop(t, &d)
		for range 1 + d.below(7) {
			for range d.below(6) {
				s.change()
				if d.below(8) == 0 {
					s.quiet()
					s.fall()
					met["falls"]++
				}
			}
			b := s.back()
			wantRestored(t, fmt.Sprint("track ", seed), string(b), s.chain...)
			for _, r := range s.chain[len(s.chain)-1].Runs {
				met[fmt.Sprint("hole ", r.Hole, ", whole ", len(s.chain) == 1)]++
			}
			met[fmt.Sprint("nothing changed ", len(s.chain[len(s.chain)-1].Runs) == 0)]++
		}
		b, _ := s.look()
		holdRestored(t, fmt.Sprint("track ", seed), &d, s.chain, b)
		if t.Failed() {
			t.Fatal("track", seed)
		}
	}
	for _, kind := range []string{"falls", "hole true, whole true", "hole false, whole true", "hole true, whole false", "hole false, whole false", "nothing changed true"} {
		if met[kind] < 10 {
			t.Error("hardly met:", kind, met[kind])
		}
	}
}

// P25.2: of a volume and an overlay, which have no marks, there is a whole archive, and nothing that is dirty.
func TestBackupsWithoutMarks(t *testing.T) {
	l := api.Label{Exports: []api.Export{{Name: "a", Sectors: 8, Min: 1, Pref: 512}}}
	places, _ := label.Layout(l)
	made, _ := disk.New(60)
	wantErr(t, "Format", label.Format(made, l), api.OK)
	c, _ := cache.New(made, 4, []api.Span{places[0].Notes})
	v, e := volume.Open(c, places[0])
	wantErr(t, "the volume", e, api.OK)
	o, e := overlay.New(v)
	wantErr(t, "the overlay", e, api.OK)
	v.Write(600, []byte("abc"))
	o.Write(1100, []byte("xyz"))

	sector := func(at int, s string) string { return zeros(at) + s + zeros(512-at-len(s)) }
	for name, x := range map[string]struct {
		from interface {
			Read(uint64, int) ([]byte, uint64, api.Errno)
			Extents(uint64, uint64) ([]extent, uint64, api.Errno)
		}
		wanted []run
	}{
		"a volume":   {v, []run{hole(0, 512), data(512, sector(88, "abc")), hole(1024, 3072)}},
		"an overlay": {o, []run{hole(0, 512), data(512, sector(88, "abc")+sector(76, "xyz")), hole(1536, 2560)}},
	} {
		b, _, e := x.from.Read(0, 4096)
		wantErr(t, name+": Read", e, api.OK)
		extents, _, e := x.from.Extents(0, 4096)
		wantErr(t, name+": Extents", e, api.OK)
		whole, e := backup.Make(1, 0, b, extents)
		wantErr(t, name, e, api.OK)
		wantArchive(t, name, whole, full(1, x.wanted...))
		part, e := backup.Make(2, 1, b, extents)
		wantErr(t, name+", what is dirty", e, api.OK)
		wantArchive(t, name+", what is dirty", part, since(2, 1, 4096))
	}
}
