package disk_test

import (
	"bytes"
	"slices"
	"testing"

	"spindle/api"
	"spindle/disk"
)

// P3.1, R7
func TestNew(t *testing.T) {
	for _, n := range []int{1, 2, 4, api.MaxSectors - 1, api.MaxSectors} {
		d := made(t, n)
		if d.Sectors() != n {
			t.Errorf("New(%d): %d sectors", n, d.Sectors())
		}
		if !bytes.Equal(d.Image(), make([]byte, n*api.SectorSize)) {
			t.Errorf("New(%d): not all bytes are 0", n)
		}
		wantRead(t, d, 0, fill(0))
		wantRead(t, d, n-1, fill(0))
		wantNoRead(t, d, n, api.ErrSector)
		wantQueue(t, "New", d)
		wantFaults(t, "New", d)
		wantStats(t, "New", d, api.DiskStats{Reads: 2})
	}
}

// P3.1, R2
func TestNewRefused(t *testing.T) {
	for _, n := range []int{0, -1, api.MaxSectors + 1, 1 << 62, -1 << 63, 1<<63 - 1} {
		d, e := disk.New(n)
		wantErr(t, "New", e, api.ErrSectors)
		if d != nil {
			t.Errorf("New(%d): a disk beside an error", n)
		}
	}
}

// P3.1
func TestLoad(t *testing.T) {
	d := loaded(t, slices.Concat(row(1), fill(0), row(2)))
	if d.Sectors() != 3 {
		t.Error("sectors:", d.Sectors())
	}
	wantStats(t, "Load", d, api.DiskStats{})
	wantQueue(t, "Load", d)
	wantFaults(t, "Load", d)
	wantImage(t, "Load", d, row(1), fill(0), row(2))
	for n, want := range [][]byte{row(1), fill(0), row(2)} {
		wantRead(t, d, n, want)
		if d.Waits(n) {
			t.Error("what is loaded waits:", n)
		}
	}
	d.Crash(nil)
	wantImage(t, "what is loaded is safe", d, row(1), fill(0), row(2))
}

// P3.1: a sector with one byte that is not 0, at each end of it
func TestLoadOneByte(t *testing.T) {
	image := make([]byte, 4*api.SectorSize)
	image[api.SectorSize], image[3*api.SectorSize-1] = 1, 128
	wantImage(t, "one byte", loaded(t, image), image)
}

// P3.1, R7
func TestLoadMost(t *testing.T) {
	image := make([]byte, api.MaxSectors*api.SectorSize)
	image[len(image)-1] = 7
	d := loaded(t, image)
	if d.Sectors() != api.MaxSectors || !bytes.Equal(d.Image(), image) {
		t.Error("the greatest image is not there")
	}
	b, e := d.Read(api.MaxSectors - 1)
	if e != api.OK || b[api.SectorSize-1] != 7 || b[0] != 0 {
		t.Error("the last sector of the greatest image:", e)
	}
}

// P3.1, R2
func TestLoadRefused(t *testing.T) {
	for _, n := range []int{0, 1, 511, 513, 1023, 1025, api.MaxSectors*api.SectorSize - 1, api.MaxSectors*api.SectorSize + 1, (api.MaxSectors + 1) * api.SectorSize} {
		d, e := disk.Load(make([]byte, n))
		wantErr(t, "Load", e, api.ErrSectors)
		if d != nil {
			t.Errorf("Load of %d bytes: a disk beside an error", n)
		}
	}
	if d, e := disk.Load(nil); e != api.ErrSectors || d != nil {
		t.Error("Load of nil:", e)
	}
}

// R4: what is loaded is neither kept nor changed, its spare room included
func TestLoadKeepsNothing(t *testing.T) {
	image := append(make([]byte, 0, 4*api.SectorSize), row(9)...)
	d := loaded(t, image)
	write(t, d, 0, row(8))
	barrier(t, d)
	if !bytes.Equal(image, row(9)) || slices.Max(image[len(image):cap(image)]) != 0 {
		t.Error("the image that was handed in is changed")
	}
	d = loaded(t, image)
	spoil(image)
	wantImage(t, "behind a change of the image", d, row(9))
}

// R1, P3.1, P3.8: a disk that is nil or that no call made
func TestNoDisk(t *testing.T) {
	for _, d := range []*disk.Disk{nil, {}} {
		for range 2 {
			if d.Sectors() != 0 || len(d.Faults()) != 0 || len(d.Queue()) != 0 || d.Waits(0) || len(d.Image()) != 0 {
				t.Error("no disk tells something")
			}
			wantStats(t, "no disk", d, api.DiskStats{})
			if d.Copy() != nil {
				t.Error("no disk has a copy")
			}
			for _, n := range []int{-1, 0, 1} {
				wantNoRead(t, d, n, api.ErrNil)
				wantErr(t, "Write", d.Write(n, fill(1)), api.ErrNil)
				wantErr(t, "Write of nothing", d.Write(n, nil), api.ErrNil)
			}
			wantErr(t, "Barrier", d.Barrier(), api.ErrNil)
			wantErr(t, "Fault", d.Fault(fault(api.FaultRead, -1, 0, 1, false)), api.ErrNil)
			wantErr(t, "Fault of nothing", d.Fault(api.Fault{}), api.ErrNil)
			d.Crash([]bool{true})
			d.Crash(nil)
		}
	}
}

// R5, R9
func TestTwoDisks(t *testing.T) {
	image := slices.Concat(row(1), row(2))
	a, b := loaded(t, image), loaded(t, image)
	before := lookAt(b)
	write(t, a, 0, row(3))
	barrier(t, a)
	write(t, a, 1, row(4))
	arm(t, a, fault(api.FaultRead, -1, 0, 9, false))
	wantNoRead(t, a, 0, api.ErrIO)
	wantLook(t, "another disk", b, before)
	wantRead(t, b, 0, row(1))
	a.Crash(nil)
	wantImage(t, "another disk", b, row(1), row(2))
	wantStats(t, "another disk", b, api.DiskStats{Reads: 1})
}
