package disk_test

import (
	"bytes"
	"slices"
	"testing"

	"spindle/api"
)

// P3.2, P3.3: of several writes the last one is read, whatever else waits
func TestReadTheLastWrite(t *testing.T) {
	d := loaded(t, slices.Concat(row(1), row(2), row(3)))
	write(t, d, 1, row(4))
	write(t, d, 2, row(5))
	write(t, d, 1, row(6))
	write(t, d, 0, row(7))
	wantRead(t, d, 0, row(7))
	wantRead(t, d, 1, row(6))
	wantRead(t, d, 2, row(5))
	wantImage(t, "ahead of a barrier", d, row(1), row(2), row(3))
	wantQueue(t, "in their order", d, put(1, row(4)), put(2, row(5)), put(1, row(6)), put(0, row(7)))
	barrier(t, d)
	wantRead(t, d, 0, row(7))
	wantRead(t, d, 1, row(6))
	wantRead(t, d, 2, row(5))
	write(t, d, 1, row(8))
	wantRead(t, d, 1, row(8))
	wantQueue(t, "behind a barrier", d, put(1, row(8)))
}

// P3.2, P3.3: the sectors' edges; R2: what is refused changes nothing and does not count
func TestNoSuchSector(t *testing.T) {
	d := busy(t)
	before := lookAt(d)
	for _, n := range []int{-1, 4, 5, api.MaxSectors, 1 << 62, -1 << 63, 1<<63 - 1} {
		wantNoRead(t, d, n, api.ErrSector)
		wantErr(t, "Write", d.Write(n, fill(65)), api.ErrSector)
		wantErr(t, "Write of nothing", d.Write(n, nil), api.ErrSector) // R3
		if d.Waits(n) {
			t.Error("what is no sector waits:", n)
		}
	}
	wantLook(t, "no such sector", d, before)
}

// P3.3: 511, 512 and 513 bytes
func TestNotTheBytesOfASector(t *testing.T) {
	d := busy(t)
	arm(t, d, fault(api.FaultWrite, 1, 1, 1, false))
	before := lookAt(d)
	for _, n := range []int{0, 1, 511, 513, 1024} {
		wantErr(t, "Write", d.Write(1, make([]byte, n)), api.ErrBytes)
	}
	wantErr(t, "Write of nil", d.Write(1, nil), api.ErrBytes)
	wantLook(t, "wrong bytes", d, before)
	wantErr(t, "Write", d.Write(1, make([]byte, 512)), api.OK)
	wantErr(t, "Write", d.Write(1, make([]byte, 512)), api.ErrIO)
}

// P3.2: what is refused counts no fault down
func TestRefusedCountsNoFaultDown(t *testing.T) {
	d := made(t, 2)
	arm(t, d, fault(api.FaultRead, -1, 1, 1, false))
	arm(t, d, fault(api.FaultWrite, -1, 0, 1, true))
	before := lookAt(d)
	wantNoRead(t, d, 2, api.ErrSector)
	wantErr(t, "Write", d.Write(2, fill(1)), api.ErrSector)
	wantErr(t, "Write", d.Write(0, fill(1)[:511]), api.ErrBytes)
	wantLook(t, "refused", d, before)
}

// P3.4
func TestBarrier(t *testing.T) {
	d := loaded(t, slices.Concat(row(1), row(2), row(3)))
	barrier(t, d)
	wantImage(t, "a barrier of nothing", d, row(1), row(2), row(3))
	write(t, d, 0, row(4))
	write(t, d, 2, row(5))
	write(t, d, 0, row(6))
	barrier(t, d)
	wantImage(t, "in the queue's order", d, row(6), row(2), row(5))
	wantQueue(t, "behind a barrier", d)
	for n := range 3 {
		if d.Waits(n) {
			t.Error("behind a barrier there waits", n)
		}
	}
	d.Crash([]bool{true, true, true})
	wantImage(t, "what is safe stays", d, row(6), row(2), row(5))
	wantStats(t, "barriers", d, api.DiskStats{Writes: 3, Barriers: 2, Crashes: 1})
}

// P3.4: zeros that are laid over bytes, and bytes over zeros
func TestBarrierOfZeros(t *testing.T) {
	d := loaded(t, slices.Concat(row(1), row(2)))
	write(t, d, 0, fill(0))
	wantRead(t, d, 0, fill(0))
	wantImage(t, "zeros that wait", d, row(1), row(2))
	barrier(t, d)
	wantRead(t, d, 0, fill(0))
	wantImage(t, "zeros", d, fill(0), row(2))
	last := fill(0)
	last[511] = 1
	write(t, d, 0, last)
	barrier(t, d)
	wantImage(t, "one byte", d, last, row(2))
}

// R4: what is written is neither kept nor changed, its spare room included
func TestWriteKeepsNothing(t *testing.T) {
	d := made(t, 2)
	b := append(make([]byte, 0, 2*api.SectorSize), row(1)...)
	write(t, d, 0, b)
	write(t, d, 1, b)
	write(t, d, 0, b)
	if !bytes.Equal(b, row(1)) || slices.Max(b[len(b):cap(b)]) != 0 {
		t.Error("what was handed in is changed")
	}
	spoil(b)
	wantRead(t, d, 0, row(1))
	wantQueue(t, "behind a change of what was written", d, put(0, row(1)), put(1, row(1)), put(0, row(1)))
	barrier(t, d)
	wantImage(t, "behind a change of what was written", d, row(1), row(1))
}

// R4: answers are memory of their own
func TestReadIsNewMemory(t *testing.T) {
	d := loaded(t, slices.Concat(row(1), fill(0)))
	write(t, d, 1, row(2))
	for n, want := range [][]byte{row(1), row(2)} {
		one, _ := d.Read(n)
		two, _ := d.Read(n)
		spoil(one)
		if !bytes.Equal(two, want) {
			t.Error("two answers share bytes")
		}
		spoil(two)
		wantRead(t, d, n, want)
	}
	barrier(t, d)
	one, _ := d.Read(1)
	spoil(one)
	wantImage(t, "behind a change of answers", d, row(1), row(2))
	hole, _ := made(t, 1).Read(0)
	spoil(hole)
	wantRead(t, made(t, 1), 0, fill(0))
}
