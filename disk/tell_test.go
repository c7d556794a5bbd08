package disk_test

import (
	"bytes"
	"testing"

	"spindle/api"
)

// P3.7
func TestWaits(t *testing.T) {
	d := made(t, 3)
	write(t, d, 0, fill(0))
	write(t, d, 2, row(1))
	for n, want := range []bool{true, false, true} {
		if d.Waits(n) != want {
			t.Error("Waits", n, d.Waits(n))
		}
	}
}

// P3.7: telling changes nothing and does not count
func TestTellingChangesNothing(t *testing.T) {
	d := busy(t)
	before := lookAt(d)
	for range 3 {
		wantLook(t, "telling", d, before)
	}
	d.Copy()
	wantLook(t, "a copy", d, before)
	wantStats(t, "counts", d, api.DiskStats{Reads: 1, Writes: 6, Barriers: 1, Failed: 1, Crashes: 1})
}

// R4: no two writes that are told share bytes with one another, with the disk or with another answer
func TestQueueIsNewMemory(t *testing.T) {
	d := made(t, 2)
	write(t, d, 0, row(1))
	write(t, d, 1, row(2))
	one, two := d.Queue(), d.Queue()
	spoil(one[0].Data)
	if !bytes.Equal(one[1].Data, row(2)) {
		t.Error("two writes of one answer share bytes")
	}
	spoil(one[1].Data)
	one[0].Sector = 9
	_ = append(one, put(7, nil))
	if !samePut(two[0], put(0, row(1))) || !samePut(two[1], put(1, row(2))) {
		t.Error("two answers share writes")
	}
	write(t, d, 0, row(3))
	wantQueue(t, "behind a change of answers", d, put(0, row(1)), put(1, row(2)), put(0, row(3)))
	barrier(t, d)
	wantImage(t, "behind a change of answers", d, row(3), row(2))
}

// R4
func TestImageIsNewMemory(t *testing.T) {
	d := loaded(t, row(1))
	one, two := d.Image(), d.Image()
	spoil(one)
	if !bytes.Equal(two, row(1)) {
		t.Error("two answers share bytes")
	}
	wantImage(t, "behind a change of an answer", d, row(1))
	if len(one) != api.SectorSize {
		t.Error("so many bytes:", len(one))
	}
}

// P3.8
func TestCopyIsAlike(t *testing.T) {
	d := busy(t)
	before := lookAt(d)
	c := d.Copy()
	if c == nil || c == d {
		t.Fatal("no copy")
	}
	wantLook(t, "a copy", c, before)
	// They go on alike, too: faults strike both at the same operations.
	for range 2 {
		wantErr(t, "Barrier of the disk", d.Barrier(), c.Barrier())
		for n := range 4 {
			wantErr(t, "Write of the disk", d.Write(n, row(byte(n))), c.Write(n, row(byte(n))))
			a, e := d.Read(n)
			b, f := c.Read(n)
			if e != f || !bytes.Equal(a, b) {
				t.Error("they read otherwise:", n)
			}
		}
		wantLook(t, "the two behind the same calls", c, lookAt(d))
	}
}

// P3.8, R4, R5: whatever is done to one of them is not seen by the other
func TestCopyIsApart(t *testing.T) {
	for _, other := range []bool{false, true} {
		d := busy(t)
		c := d.Copy()
		if other {
			c, d = d, c
		}
		before := lookAt(c)
		wantErr(t, "Barrier", d.Barrier(), api.ErrIO)
		wantLook(t, "a fault is spent", c, before)
		write(t, d, 2, row(9))
		arm(t, d, fault(reading, 2, 0, 1, false))
		wantLook(t, "a write and a fault", c, before)
		write(t, c, 3, row(10))
		wantQueue(t, "the one's queue", d, put(0, row(5)), put(1, fill(0)), put(2, row(9)))
		before = lookAt(c)
		barrier(t, d)
		wantLook(t, "a barrier", c, before)
		d.Crash(nil)
		wantLook(t, "a crash", c, before)
	}
}
