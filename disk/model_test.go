package disk_test

import (
	"slices"
	"testing"

	"spindle/api"
	"spindle/disk"
)

// model is a disk written down as plainly as the chapter tells of it: it keeps every sector and searches its whole queue.
type model struct {
	safe   [][]byte
	queue  []api.Put
	faults []api.Fault
	stats  api.DiskStats
}

func (m *model) fails(kind, sector int) *api.Fault {
	for i, f := range m.faults {
		if f.Kind != kind || kind != barring && f.Sector != -1 && f.Sector != sector {
			continue
		}
		if f.After > 0 {
			m.faults[i].After--
			continue
		}
		m.faults[i].Times--
		if m.faults[i].Times == 0 {
			m.faults = slices.Concat(m.faults[:i], m.faults[i+1:])
		}
		m.stats.Failed++
		return &f
	}
	return nil
}

func (m *model) reads(sector int) []byte {
	b := m.safe[sector]
	for _, p := range m.queue {
		if p.Sector == sector {
			b = p.Data
		}
	}
	return b
}

func (m *model) look() look {
	l := look{len(m.safe), slices.Concat(m.safe...), m.queue, m.faults, m.stats, make([]bool, len(m.safe))}
	for _, p := range m.queue {
		l.waits[p.Sector] = true
	}
	return l
}

func (m *model) read(t *testing.T, d *disk.Disk, sector int) {
	if m.fails(reading, sector) != nil {
		wantNoRead(t, d, sector, api.ErrIO)
		return
	}
	m.stats.Reads++
	wantRead(t, d, sector, m.reads(sector))
}

func (m *model) write(t *testing.T, d *disk.Disk, sector int, b []byte) {
	f := m.fails(writing, sector)
	if f == nil || f.Land {
		m.queue = append(m.queue, put(sector, b))
	}
	if f == nil {
		m.stats.Writes++
		wantErr(t, "Write", d.Write(sector, b), api.OK)
		return
	}
	wantErr(t, "Write", d.Write(sector, b), api.ErrIO)
}

func (m *model) barrier(t *testing.T, d *disk.Disk) {
	if m.fails(barring, 0) != nil {
		wantErr(t, "Barrier", d.Barrier(), api.ErrIO)
		return
	}
	m.stats.Barriers++
	for _, p := range m.queue {
		m.safe[p.Sector] = p.Data
	}
	m.queue = nil
	wantErr(t, "Barrier", d.Barrier(), api.OK)
}

func (m *model) fault(t *testing.T, d *disk.Disk, f api.Fault) {
	if len(m.faults) == api.MaxFaults {
		wantErr(t, "Fault", d.Fault(f), api.ErrFault)
		return
	}
	m.faults = append(m.faults, f)
	wantErr(t, "Fault", d.Fault(f), api.OK)
}

func (m *model) crash(d *disk.Disk, keep []bool) {
	for i, p := range m.queue {
		if i < len(keep) && keep[i] {
			m.safe[p.Sector] = p.Data
		}
	}
	m.queue, m.faults = nil, nil
	m.stats.Crashes++
	d.Crash(keep)
}

// step does one thing, picked by the dice, to both.
func (m *model) step(t *testing.T, d *disk.Disk, dice *dice) {
	n := len(m.safe)
	switch k := dice.below(20); {
	case k < 6:
		m.read(t, d, dice.below(n))
	case k < 13:
		m.write(t, d, dice.below(n), fill(byte(dice.below(4))))
	case k < 15:
		m.barrier(t, d)
	case k < 19:
		m.fault(t, d, fault(1+dice.below(3), dice.below(n+1)-1, dice.below(4), 1+dice.below(3), dice.below(2) == 0))
	default:
		keep := make([]bool, dice.below(len(m.queue)+3))
		for i := range keep {
			keep[i] = dice.below(2) == 0
		}
		m.crash(d, keep)
	}
}

// P3.1 to P3.8: a disk is at all times as the plain one
func TestAgainstAPlainDisk(t *testing.T) {
	throw := dice(3)
	for round := range 40 {
		n := 1 + round%5
		m := model{safe: make([][]byte, n)}
		for i := range m.safe {
			m.safe[i] = fill(byte(throw.below(3)))
		}
		d := loaded(t, slices.Concat(m.safe...))
		for range 200 {
			m.step(t, d, &throw)
			wantLook(t, "against the plain one", d, m.look())
			if throw.below(30) == 0 {
				d = d.Copy()
			}
			if t.Failed() {
				t.Fatal("round", round)
			}
		}
	}
}

// P3.10: behind a crash a sector is what it was, or one of the writes of it that waited
func TestWhatFollowsACrash(t *testing.T) {
	throw := dice(10)
	for range 200 {
		d := loaded(t, slices.Concat(row(200), row(201), row(202)))
		could := [][]byte{{200}, {201}, {202}}
		var keep []bool
		for i := range 8 {
			n := throw.below(3)
			write(t, d, n, row(byte(i)))
			could[n] = append(could[n], byte(i))
			keep = append(keep, throw.below(2) == 0)
		}
		d.Crash(keep)
		for n := range 3 {
			b, e := d.Read(n)
			if e != api.OK || !slices.Contains(could[n], b[0]) || !slices.Equal(b, row(b[0])) {
				t.Fatal("a sector is none of its values:", n, b[0], e)
			}
			if len(could[n]) == 1 && b[0] != could[n][0] {
				t.Error("what was safe did not stay:", n)
			}
		}
	}
}
