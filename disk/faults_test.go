package disk_test

import (
	"testing"

	"spindle/api"
)

const (
	reading = api.FaultRead
	writing = api.FaultWrite
	barring = api.FaultBarrier
)

// P3.5: each kind fails its own operations alone
func TestFaultOfEachKind(t *testing.T) {
	for _, kind := range []int{reading, writing, barring} {
		d := made(t, 4)
		arm(t, d, fault(kind, -1, 0, 1, false))
		fails := func(k int) api.Errno {
			if k == kind {
				return api.ErrIO
			}
			return api.OK
		}
		for _, k := range []int{writing, barring, reading} {
			var e api.Errno
			switch k {
			case reading:
				_, e = d.Read(3)
			case writing:
				e = d.Write(3, fill(1))
			case barring:
				e = d.Barrier()
			}
			wantErr(t, "an operation", e, fails(k))
		}
		wantFaults(t, "its one time", d)
		if s := d.Stats(); s.Failed != 1 || s.Reads+s.Writes+s.Barriers != 2 {
			t.Error("counts:", s)
		}
	}
}

// P3.5: a fault of a sector lets all others be
func TestFaultOfASector(t *testing.T) {
	d := made(t, 4)
	arm(t, d, fault(reading, 0, 0, 1, false))
	arm(t, d, fault(writing, 3, 0, 1, false))
	for _, n := range []int{1, 2, 3} {
		wantRead(t, d, n, fill(0))
	}
	for _, n := range []int{0, 1, 2} {
		write(t, d, n, row(1))
	}
	wantFaults(t, "nothing came", d, fault(reading, 0, 0, 1, false), fault(writing, 3, 0, 1, false))
	wantNoRead(t, d, 0, api.ErrIO)
	wantErr(t, "Write", d.Write(3, row(1)), api.ErrIO)
	wantFaults(t, "both came", d)
	wantRead(t, d, 0, row(1))
	wantRead(t, d, 3, fill(0))
}

// P3.5: After many go well, then Times many fail
func TestFaultCountsDown(t *testing.T) {
	for after := range 4 {
		for times := 1; times < 4; times++ {
			d := made(t, 2)
			arm(t, d, fault(writing, 1, after, times, false))
			for i := range after {
				wantFaults(t, "ahead", d, fault(writing, 1, after-i, times, false))
				write(t, d, 0, fill(9))
				write(t, d, 1, fill(1))
			}
			for i := range times {
				wantFaults(t, "within", d, fault(writing, 1, 0, times-i, false))
				write(t, d, 0, fill(9))
				wantErr(t, "Write", d.Write(1, fill(2)), api.ErrIO)
			}
			wantFaults(t, "behind", d)
			write(t, d, 1, fill(1))
			wantStats(t, "counts", d, api.DiskStats{Writes: uint64(2*after + times + 1), Failed: uint64(times)})
		}
	}
}

// P3.5: what fails counts down all faults ahead, and none behind
func TestFaultsInTheirOrder(t *testing.T) {
	d := made(t, 4)
	arm(t, d, fault(reading, -1, 5, 1, false))
	arm(t, d, fault(writing, -1, 5, 1, false))
	arm(t, d, fault(reading, 2, 5, 1, false))
	arm(t, d, fault(reading, 1, 0, 2, true))
	arm(t, d, fault(reading, 1, 4, 3, false))
	arm(t, d, fault(reading, -1, 3, 3, false))
	wantNoRead(t, d, 1, api.ErrIO)
	wantFaults(t, "one read of sector 1", d, fault(reading, -1, 4, 1, false), fault(writing, -1, 5, 1, false), fault(reading, 2, 5, 1, false),
		fault(reading, 1, 0, 1, true), fault(reading, 1, 4, 3, false), fault(reading, -1, 3, 3, false))
	wantRead(t, d, 2, fill(0))
	wantFaults(t, "one read of sector 2", d, fault(reading, -1, 3, 1, false), fault(writing, -1, 5, 1, false), fault(reading, 2, 4, 1, false),
		fault(reading, 1, 0, 1, true), fault(reading, 1, 4, 3, false), fault(reading, -1, 2, 3, false))
	wantNoRead(t, d, 1, api.ErrIO)
	wantFaults(t, "a fault that is spent is armed no more", d, fault(reading, -1, 2, 1, false), fault(writing, -1, 5, 1, false), fault(reading, 2, 4, 1, false),
		fault(reading, 1, 4, 3, false), fault(reading, -1, 2, 3, false))
	wantRead(t, d, 1, fill(0))
	wantFaults(t, "a read that goes well counts all down", d, fault(reading, -1, 1, 1, false), fault(writing, -1, 5, 1, false), fault(reading, 2, 4, 1, false),
		fault(reading, 1, 3, 3, false), fault(reading, -1, 1, 3, false))
}

// P3.5: two faults of one operation fail two of them
func TestFaultsOfOneOperation(t *testing.T) {
	d := made(t, 1)
	arm(t, d, fault(reading, 0, 0, 1, false))
	arm(t, d, fault(reading, -1, 0, 1, false))
	wantNoRead(t, d, 0, api.ErrIO)
	wantFaults(t, "the first one is spent", d, fault(reading, -1, 0, 1, false))
	wantNoRead(t, d, 0, api.ErrIO)
	wantRead(t, d, 0, fill(0))
}

// P3.3: a write that fails comes into the queue only if its fault has Land
func TestFaultThatLands(t *testing.T) {
	d := made(t, 3)
	write(t, d, 1, row(1))
	arm(t, d, fault(writing, -1, 0, 2, true))
	arm(t, d, fault(writing, -1, 0, 1, false))
	wantErr(t, "Write that lands", d.Write(1, row(2)), api.ErrIO)
	wantRead(t, d, 1, row(2))
	wantErr(t, "Write that lands", d.Write(2, row(3)), api.ErrIO)
	wantErr(t, "Write that does not land", d.Write(1, row(4)), api.ErrIO)
	wantRead(t, d, 1, row(2))
	wantErr(t, "Write that does not land", d.Write(0, row(4)), api.OK)
	wantQueue(t, "what landed", d, put(1, row(1)), put(1, row(2)), put(2, row(3)), put(0, row(4)))
	wantStats(t, "whatever landed", d, api.DiskStats{Reads: 2, Writes: 2, Failed: 3})
	if !d.Waits(2) {
		t.Error("what landed does not wait")
	}
	barrier(t, d)
	wantImage(t, "what landed", d, row(4), row(2), row(3))
}

// P3.3: what did not land does not wait
func TestFaultThatDoesNotLand(t *testing.T) {
	d := made(t, 1)
	arm(t, d, fault(writing, 0, 0, 1, false))
	wantErr(t, "Write", d.Write(0, row(1)), api.ErrIO)
	wantQueue(t, "nothing landed", d)
	if d.Waits(0) {
		t.Error("what did not land waits")
	}
	wantRead(t, d, 0, fill(0))
	wantStats(t, "counts", d, api.DiskStats{Reads: 1, Failed: 1})
}

// P3.4: a barrier that fails makes nothing safe; its fault's Sector is not looked at
func TestFaultOfABarrier(t *testing.T) {
	for _, sector := range []int{-1, 0, 1} {
		for _, land := range []bool{false, true} {
			d := made(t, 2)
			write(t, d, 1, row(1))
			arm(t, d, fault(barring, sector, 1, 2, land))
			barrier(t, d)
			wantImage(t, "the barrier ahead", d, fill(0), row(1))
			write(t, d, 1, row(2))
			for range 2 {
				wantErr(t, "Barrier", d.Barrier(), api.ErrIO)
				wantImage(t, "a barrier that failed", d, fill(0), row(1))
				wantQueue(t, "a barrier that failed", d, put(1, row(2)))
				wantRead(t, d, 1, row(2))
			}
			barrier(t, d)
			wantImage(t, "the barrier behind", d, fill(0), row(2))
			wantStats(t, "counts", d, api.DiskStats{Reads: 2, Writes: 2, Barriers: 2, Failed: 2})
		}
	}
}

// P3.2: a read that fails changes nothing but the count
func TestFaultOfARead(t *testing.T) {
	d := made(t, 2)
	write(t, d, 1, row(1))
	arm(t, d, fault(reading, 1, 0, 1, true))
	before := lookAt(d)
	wantNoRead(t, d, 1, api.ErrIO)
	before.faults, before.stats.Failed = nil, 1
	wantLook(t, "a read that failed", d, before)
}

// P3.5: what may be armed is kept as it is
func TestFaultsAreKept(t *testing.T) {
	d := made(t, 4)
	armed := []api.Fault{
		fault(reading, -1, 0, 1, true),
		fault(reading, 3, 7, 8, false),
		fault(writing, 0, 1<<62, 1<<62, true),
		fault(barring, 2, 1, 1<<63-1, true),
		fault(barring, -1, 1<<63-1, 1, false),
	}
	for i, f := range armed {
		arm(t, d, f)
		wantFaults(t, "armed", d, armed[:i+1]...)
	}
	wantStats(t, "to arm is not counted", d, api.DiskStats{})
}

// P3.5, R2: what may not be armed
func TestFaultRefused(t *testing.T) {
	d := busy(t)
	before := lookAt(d)
	for _, kind := range []int{0, 4, 9, -1, 1 << 62} {
		wantErr(t, "the kind", d.Fault(fault(kind, 0, 0, 1, false)), api.ErrFault)
	}
	for _, kind := range []int{reading, writing, barring} {
		for _, sector := range []int{-2, 4, -1 << 63, 1<<63 - 1} {
			wantErr(t, "the sector", d.Fault(fault(kind, sector, 0, 1, false)), api.ErrFault)
		}
		for _, after := range []int{-1, -1 << 63} {
			wantErr(t, "After", d.Fault(fault(kind, 0, after, 1, false)), api.ErrFault)
		}
		for _, times := range []int{0, -1, -1 << 63} {
			wantErr(t, "Times", d.Fault(fault(kind, 0, 0, times, false)), api.ErrFault)
		}
	}
	wantErr(t, "no fault", d.Fault(api.Fault{}), api.ErrFault)
	wantLook(t, "refused", d, before)
}

// P3.5, R7: MaxFaults armed and one more
func TestMostFaults(t *testing.T) {
	d := made(t, 1)
	var armed []api.Fault
	for i := range api.MaxFaults {
		f := fault(reading, 0, i, 1, false)
		arm(t, d, f)
		armed = append(armed, f)
	}
	wantErr(t, "one more", d.Fault(fault(writing, 0, 0, 1, false)), api.ErrFault)
	wantFaults(t, "as many as may be", d, armed...)
	wantNoRead(t, d, 0, api.ErrIO)
	arm(t, d, fault(writing, 0, 0, 1, false))
	wantFaults(t, "there is room for one again", d, append(armed[1:], fault(writing, 0, 0, 1, false))...)
	wantErr(t, "one more", d.Fault(fault(reading, -1, 0, 1, false)), api.ErrFault)
	d.Crash(nil)
	arm(t, d, fault(reading, -1, 0, 1, false))
	wantFaults(t, "behind a crash", d, fault(reading, -1, 0, 1, false))
}

// R4: Faults is memory of its own
func TestFaultsAreNewMemory(t *testing.T) {
	d := made(t, 1)
	a, b := fault(reading, 0, 3, 1, false), fault(writing, 0, 3, 1, false)
	arm(t, d, a)
	arm(t, d, b)
	one, two := d.Faults(), d.Faults()
	one[0].Times = 99
	_ = append(one[:1], api.Fault{Kind: 77})
	if two[0] != a || two[1] != b {
		t.Error("two answers share faults")
	}
	_ = append(two, api.Fault{Kind: 77})
	arm(t, d, a)
	wantFaults(t, "behind a change of answers", d, a, b, a)
}
