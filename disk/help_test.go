package disk_test

import (
	"bytes"
	"slices"
	"testing"

	"spindle/api"
	"spindle/disk"
)

func fill(b byte) []byte { return bytes.Repeat([]byte{b}, api.SectorSize) }

// row gives bytes of which no two neighbours are alike, and none of which another from gives at the same place.
func row(from byte) []byte {
	b := make([]byte, api.SectorSize)
	for i := range b {
		b[i] = from + byte(i)
	}
	return b
}

func wantErr(t *testing.T, what string, got, want api.Errno) {
	t.Helper()
	if got != want {
		t.Errorf("%s: error %d, want %d", what, got, want)
	}
}

func made(t *testing.T, sectors int) *disk.Disk {
	t.Helper()
	d, e := disk.New(sectors)
	if e != api.OK || d == nil {
		t.Fatalf("New(%d): %v, error %d", sectors, d != nil, e)
	}
	return d
}

func loaded(t *testing.T, image []byte) *disk.Disk {
	t.Helper()
	d, e := disk.Load(image)
	if e != api.OK || d == nil {
		t.Fatalf("Load of %d bytes: %v, error %d", len(image), d != nil, e)
	}
	return d
}

func write(t *testing.T, d *disk.Disk, sector int, b []byte) {
	t.Helper()
	wantErr(t, "Write", d.Write(sector, b), api.OK)
}

func barrier(t *testing.T, d *disk.Disk) {
	t.Helper()
	wantErr(t, "Barrier", d.Barrier(), api.OK)
}

func arm(t *testing.T, d *disk.Disk, f api.Fault) {
	t.Helper()
	wantErr(t, "Fault", d.Fault(f), api.OK)
}

// fault spares the tests the names of the fields.
func fault(kind, sector, after, times int, land bool) api.Fault {
	return api.Fault{Kind: kind, Sector: sector, After: after, Times: times, Land: land}
}

func wantRead(t *testing.T, d *disk.Disk, sector int, want []byte) {
	t.Helper()
	b, e := d.Read(sector)
	if e != api.OK || !bytes.Equal(b, want) {
		t.Errorf("Read(%d): %d bytes from %v on, error %d, want from %v on", sector, len(b), head(b), e, head(want))
	}
}

// wantNoRead looks that a read is refused, and that nothing comes beside the error.
func wantNoRead(t *testing.T, d *disk.Disk, sector int, want api.Errno) {
	t.Helper()
	if b, e := d.Read(sector); e != want || len(b) != 0 {
		t.Errorf("Read(%d): %d bytes, error %d, want error %d", sector, len(b), e, want)
	}
}

func head(b []byte) []byte { return b[:min(len(b), 4)] }

// wantImage looks that the safe bytes are those of parts, one behind the other.
func wantImage(t *testing.T, what string, d *disk.Disk, parts ...[]byte) {
	t.Helper()
	if !bytes.Equal(d.Image(), slices.Concat(parts...)) {
		t.Errorf("%s: other safe bytes", what)
	}
}

func wantFaults(t *testing.T, what string, d *disk.Disk, want ...api.Fault) {
	t.Helper()
	if got := d.Faults(); !slices.Equal(got, want) {
		t.Errorf("%s: faults %v, want %v", what, got, want)
	}
}

func wantStats(t *testing.T, what string, d *disk.Disk, want api.DiskStats) {
	t.Helper()
	if got := d.Stats(); got != want {
		t.Errorf("%s: counts %v, want %v", what, got, want)
	}
}

func samePut(a, b api.Put) bool { return a.Sector == b.Sector && bytes.Equal(a.Data, b.Data) }

func wantQueue(t *testing.T, what string, d *disk.Disk, want ...api.Put) {
	t.Helper()
	got := d.Queue()
	if !slices.EqualFunc(got, want, samePut) {
		t.Errorf("%s: a queue of %d writes, want %d others", what, len(got), len(want))
	}
}

func put(sector int, data []byte) api.Put { return api.Put{Sector: sector, Data: data} }

// look is all that can be told of a disk without counting.
type look struct {
	sectors int
	image   []byte
	queue   []api.Put
	faults  []api.Fault
	stats   api.DiskStats
	waits   []bool
}

func lookAt(d *disk.Disk) look {
	l := look{sectors: d.Sectors(), image: d.Image(), queue: d.Queue(), faults: d.Faults(), stats: d.Stats()}
	for n := range l.sectors {
		l.waits = append(l.waits, d.Waits(n))
	}
	return l
}

func (l look) same(m look) bool {
	return l.sectors == m.sectors && bytes.Equal(l.image, m.image) &&
		slices.EqualFunc(l.queue, m.queue, samePut) && slices.Equal(l.faults, m.faults) &&
		l.stats == m.stats && slices.Equal(l.waits, m.waits)
}

func wantLook(t *testing.T, what string, d *disk.Disk, want look) {
	t.Helper()
	if !lookAt(d).same(want) {
		t.Errorf("%s: the disk is not as it was", what)
	}
}

// busy gives a disk of 4 sectors with something of everything: safe bytes, a queue, faults, counts.
func busy(t *testing.T) *disk.Disk {
	t.Helper()
	d := loaded(t, slices.Concat(row(1), fill(0), row(2), row(3)))
	write(t, d, 1, fill(65))
	barrier(t, d)
	write(t, d, 2, fill(66))
	write(t, d, 3, fill(0))
	write(t, d, 2, row(4))
	d.Crash([]bool{false, true})
	write(t, d, 0, row(5))
	write(t, d, 1, fill(0))
	arm(t, d, fault(api.FaultRead, 1, 0, 1, false))
	wantNoRead(t, d, 1, api.ErrIO)
	wantRead(t, d, 0, row(5))
	arm(t, d, fault(api.FaultWrite, 2, 3, 2, true))
	arm(t, d, fault(api.FaultBarrier, -1, 0, 1, false))
	return d
}

// spoil overwrites a list and the spare room behind it.
func spoil(b []byte) {
	b = b[:cap(b)]
	for i := range b {
		b[i] ^= 0xff
	}
}

// dice gives numbers that look as if thrown, the same ones in each run.
type dice uint64

func (d *dice) below(n int) int {
	*d = *d*6364136223846793005 + 1442695040888963407
	return int(uint64(*d)>>33) % n
}
