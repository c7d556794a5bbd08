package disk_test

import (
	"testing"

	"spindle/api"
)

// The chapter's examples, by their numbers.

func TestExample1(t *testing.T) {
	a, b := fill(65), fill(66)
	d := made(t, 4)
	write(t, d, 1, a)
	write(t, d, 1, b)
	write(t, d, 3, a)
	wantRead(t, d, 1, b)
	wantImage(t, "example 1", d, make([]byte, 2048))
	wantQueue(t, "example 1", d, put(1, a), put(1, b), put(3, a))
	if !d.Waits(1) || d.Waits(0) {
		t.Error("Waits:", d.Waits(1), d.Waits(0))
	}
	d.Crash([]bool{true, false, true})
	wantQueue(t, "example 1", d)
	wantStats(t, "example 1", d, api.DiskStats{Reads: 1, Writes: 3, Crashes: 1})
	wantRead(t, d, 1, a)
	wantRead(t, d, 3, a)
}

func TestExample2(t *testing.T) {
	d := made(t, 4)
	wantErr(t, "Write(4, A)", d.Write(4, fill(65)), api.ErrSector)
	wantErr(t, "Write(0, A[:511])", d.Write(0, fill(65)[:511]), api.ErrBytes)
	wantNoRead(t, d, -1, api.ErrSector)
	wantStats(t, "example 2", d, api.DiskStats{})
}

func TestExample3(t *testing.T) {
	a, b := fill(65), fill(66)
	d := made(t, 4)
	arm(t, d, fault(writing, 2, 1, 1, true))
	write(t, d, 2, a)
	write(t, d, 0, a)
	wantErr(t, "Write(2, B)", d.Write(2, b), api.ErrIO)
	wantRead(t, d, 2, b)
	write(t, d, 2, a)
	wantFaults(t, "example 3", d)
	wantStats(t, "example 3", d, api.DiskStats{Reads: 1, Writes: 3, Failed: 1})
}

func TestExample4(t *testing.T) {
	d := made(t, 4)
	arm(t, d, fault(barring, -1, 0, 2, false))
	wantErr(t, "the first", d.Barrier(), api.ErrIO)
	wantErr(t, "the second", d.Barrier(), api.ErrIO)
	wantErr(t, "the third", d.Barrier(), api.OK)
}

func TestExample5(t *testing.T) {
	d := made(t, 4)
	arm(t, d, fault(reading, -1, 2, 1, false))
	arm(t, d, fault(reading, 0, 0, 1, false))
	wantNoRead(t, d, 0, api.ErrIO)
	wantFaults(t, "example 5", d, fault(reading, -1, 1, 1, false))
	wantRead(t, d, 1, fill(0))
	wantFaults(t, "example 5", d, fault(reading, -1, 0, 1, false))
	wantNoRead(t, d, 1, api.ErrIO)
	wantFaults(t, "example 5", d)
}

func TestExample6(t *testing.T) {
	d := made(t, 4)
	for _, f := range []api.Fault{fault(9, 0, 0, 1, false), fault(reading, 4, 0, 1, false), fault(reading, 0, -1, 1, false), fault(reading, 0, 0, 0, false)} {
		wantErr(t, "Fault", d.Fault(f), api.ErrFault)
	}
	wantFaults(t, "example 6", d)
}
