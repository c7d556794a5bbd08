package audit_test

import (
	"fmt"
	"slices"
	"testing"

	"spindle/api"
	"spindle/cache"
	"spindle/disk"
	"spindle/label"
	"spindle/track"
	"spindle/volume"
)

// A device is an export's volume, or its track.
type device interface {
	Size() uint64
	Write(off uint64, b []byte) (uint64, api.Errno)
	Zero(off uint64, n uint64, keep bool) (uint64, api.Errno)
	Trim(off uint64, n uint64) (uint64, api.Errno)
	Sync(off uint64, n uint64) api.Errno
	Flush() api.Errno
	Peek(off uint64, n int) ([]byte, api.Errno)
}

// A machine is a disk with a label, a cache over it, and the exports' devices.
type machine struct {
	t       *testing.T
	d       *dice
	disk    *disk.Disk
	label   api.Label
	cache   *cache.Cache
	devices []device
}

// machineOver formats a disk whose sectors are not 0.
func machineOver(t *testing.T, d *dice, l api.Label) *machine {
	t.Helper()
	wanted, _ := label.Sectors(l)
	x, e := disk.Load(stamped(wanted + d.below(9)))
	want(t, "the disk", e, api.OK)
	want(t, "Format", label.Format(x, l), api.OK)
	m := &machine{t: t, d: d, disk: x, label: l}
	m.open()
	return m
}

// open makes the cache and the devices anew, as behind a crash.
func (m *machine) open() {
	m.t.Helper()
	places, _ := label.Layout(m.label)
	var notes []api.Span
	for _, p := range places {
		notes = append(notes, p.Notes)
	}
	var e api.Errno
	m.cache, e = cache.New(m.disk, pick(m.d, 1, 2, 4, 30), notes)
	want(m.t, "the cache", e, api.OK)
	m.devices = nil
	for n, p := range places {
		var x device
		if m.label.Exports[n].Tracked {
			x, e = track.Open(m.cache, p)
		} else {
			x, e = volume.Open(m.cache, p)
		}
		want(m.t, "the device", e, api.OK)
		m.devices = append(m.devices, x)
	}
}

// step does something that is thrown, which may fail.
func (m *machine) step(number int) {
	x := m.devices[m.d.below(len(m.devices))]
	lo, hi := m.d.below(int(x.Size())+1), m.d.below(int(x.Size())+1)
	off, n := uint64(min(lo, hi)), uint64(max(lo, hi)-min(lo, hi))
	switch m.d.below(12) {
	case 0, 1, 2, 3:
		x.Write(off, of(int(n), byte(1+m.d.below(255))))
	case 4:
		x.Zero(off, n, m.d.bool())
	case 5:
		x.Trim(off, n)
	case 6:
		x.Sync(off, n)
	case 7:
		x.Flush()
	case 8:
		m.cache.Back()
	case 9:
		if x, ok := x.(*track.Track); ok {
			x.Clear()
		}
	default:
		label.Commit(m.disk, described(m.label, fmt.Sprint("step ", number)))
	}
}

// arm arms a fault now and then.
func (m *machine) arm() {
	if m.d.below(4) == 0 {
		m.disk.Fault(api.Fault{Kind: 1 + m.d.below(3), Sector: -1, After: m.d.below(30), Times: 1 + m.d.below(3), Land: m.d.bool()})
	}
}

// keeping throws for what a crash keeps of a queue: nothing, all of it, or some.
func (m *machine) keeping() []bool {
	out := make([]bool, len(m.disk.Queue()))
	how := m.d.below(4)
	for i := range out {
		out[i] = how == 1 || how > 1 && m.d.bool()
	}
	return out
}

// fallen is the disk's bytes behind a crash that it does not feel.
func (m *machine) fallen() image {
	c := m.disk.Copy()
	c.Crash(m.keeping())
	return c.Image()
}

// wantFallen holds a disk that has fallen against P21.7: what can be found there is a body that a Commit was about, of the slot that is not in force.
func (m *machine) wantFallen(what string, b image) api.Audit {
	m.t.Helper()
	a := look(m.t, what, b)
	want(m.t, what+": there is a label", len(a.Label.Exports), len(m.label.Exports))
	for _, f := range a.Findings {
		want(m.t, what+": found", f, body(1-a.Slot))
	}
	holdStart(m.t, what, b, a)
	return a
}

// wantMended: what can be found there goes, and all else is as it was.
func (m *machine) wantMended(what string, b image, a api.Audit) {
	m.t.Helper()
	mended, _ := repairOf(m.t, b, false)
	holdMended(m.t, what, b, mended, a)
	want(m.t, what+": Clean, behind Repair", cleanOf(m.t, look(m.t, what, mended)), true)
}

// P21.7, W8: rows of calls through layers 5, 7 and 19, and Commits, with faults, and crashes that keep anything; now and then the row goes on behind one.
func TestCrashes(t *testing.T) {
	torn := 0
	for seed := range 40 {
		d := dice(seed)
		m := machineOver(t, &d, pick(&d, one(), several(), throwLabel(&d)))
		for number := range 40 {
			what := fmt.Sprint("row ", seed, ", step ", number)
			if seed%3 > 0 {
				m.arm()
			}
			m.step(number)
			b := m.fallen()
			a := m.wantFallen(what, b)
			torn += len(a.Findings)
			if number%10 == 9 {
				m.wantMended(what, b, a)
			}
			if d.below(8) == 0 {
				m.disk.Crash(m.keeping())
				m.open()
			}
			if t.Failed() {
				t.Fatal(what)
			}
		}
	}
	want(t, "a body of a Commit that was broken off was met", torn > 0, true)
}

// P21.4, P21.5, P21.7: behind a Flush of all that was done a disk's bytes are what the devices tell, and differ where those do.
func TestBytesAreThoseOfTheDevices(t *testing.T) {
	for seed := range 40 {
		d := dice(seed)
		m := machineOver(t, &d, pick(&d, one(), several(), throwLabel(&d)))
		var last image
		var peeked [][]byte
		for round := range 5 {
			for number := range 6 {
				m.step(number)
			}
			want(t, "Flush", m.cache.Flush(), api.OK)
			b := image(m.disk.Image())
			want(t, "Clean", cleanOf(t, look(t, "flushed", b)), true)
			for n, x := range m.devices {
				array, e := x.Peek(0, int(x.Size()))
				want(t, "Peek", e, api.OK)
				wantExport(t, "flushed", b, n, array)
				if round > 0 {
					wantDiffer(t, "since the last flush", last, b, n, unlikeBytes(peeked[n], array)...)
					peeked[n] = array
				} else {
					peeked = append(peeked, array)
				}
			}
			last = b
		}
	}
}

// unlikeBytes gives the ranges in which two arrays of one length differ.
func unlikeBytes(a, b []byte) []api.Range {
	var out []api.Range
	for at := 0; at < len(a); {
		n := slices.IndexFunc(upTo(at, len(a)), func(i int) bool { return a[i] != b[i] })
		if n < 0 {
			break
		}
		lo := at + n
		for at = lo; at < len(a) && a[at] != b[at]; at++ {
		}
		out = append(out, api.Range{Lo: int64(lo), Hi: int64(at)})
	}
	return out
}

// brokenOff lets a call fail at each of its operations in turn, the failing one landing or not, and at last not at all; each time it hands on the disk as it stands then.
func brokenOff(t *testing.T, d *disk.Disk, call func(*disk.Disk) api.Errno, look func(what string, d *disk.Disk)) {
	t.Helper()
	for _, kind := range []int{api.FaultRead, api.FaultWrite, api.FaultBarrier} {
		for after := 0; ; after++ {
			failed := false
			for _, land := range []bool{false, true} {
				c := d.Copy()
				want(t, "Fault", c.Fault(api.Fault{Kind: kind, Sector: -1, After: after, Times: 1, Land: land}), api.OK)
				failed = call(c) != api.OK
				look(fmt.Sprint("kind ", kind, ", after ", after, ", land ", land), c)
			}
			if !failed {
				break
			}
		}
	}
}

// W8, P21.7: a crash in a Commit leaves the label from before or the new one, and the auditor tells which.
func TestCrashInACommit(t *testing.T) {
	d := dice(4)
	m := machineOver(t, &d, several())
	now := several()
	for seq := uint64(1); seq <= 3; seq++ {
		next := described(several(), fmt.Sprint("number ", seq+1))
		brokenOff(t, m.disk, func(x *disk.Disk) api.Errno { return label.Commit(x, next) }, func(what string, x *disk.Disk) {
			for range 4 {
				b := (&machine{t: t, d: &d, disk: x, label: now}).fallen()
				a := look(t, what, b)
				before := a.Seq == seq && slices.Equal(a.Label.Exports, now.Exports)
				behind := a.Seq == seq+1 && slices.Equal(a.Label.Exports, next.Exports)
				want(t, what+": one label or the other", before || behind, true)
				for _, f := range a.Findings {
					want(t, what+": found", f, body(1-a.Slot))
				}
				want(t, what+": the slot", a.Slot, int(a.Seq+1)%2)
				holdStart(t, what, b, a)
			}
		})
		want(t, "Commit", label.Commit(m.disk, next), api.OK)
		now = next
		wantLook(t, "behind a Commit", m.disk.Image(), clean(int(seq)%2, seq+1, next))
	}
}

// W8: a crash in a Format leaves a label that stood there, the new one, or none that is taken.
func TestCrashInAFormat(t *testing.T) {
	d := dice(5)
	m := machineOver(t, &d, several())
	want(t, "Commit", label.Commit(m.disk, described(several(), "second")), api.OK)
	fresh := labelOf(tracked(export("new", 20)))
	met := map[string]int{}
	brokenOff(t, m.disk, func(x *disk.Disk) api.Errno { return label.Format(x, fresh) }, func(what string, x *disk.Disk) {
		for range 6 {
			b := (&machine{t: t, d: &d, disk: x}).fallen()
			a := look(t, what, b)
			switch {
			case a.Seq == 1 && slices.Equal(a.Label.Exports, fresh.Exports):
				met["new"]++
				want(t, what+": Clean", cleanOf(t, a), true)
			case a.Seq == 1 && slices.Equal(a.Label.Exports, several().Exports), a.Seq == 2 && slices.Equal(a.Label.Exports, described(several(), "second").Exports):
				met["old"]++
				want(t, what+": Clean", cleanOf(t, a), true)
			default:
				met["none"]++
				wantAudit(t, what, a, api.Audit{Sectors: m.disk.Sectors(), Slot: -1, Findings: found(none())})
			}
			holdStart(t, what, b, a)
		}
	})
	want(t, "all three were met", len(met), 3)
}
