package disk_test

import (
	"bytes"
	"sync"
	"testing"

	"spindle/api"
	"spindle/disk"
)

// together makes calls from several goroutines at the same time.
func together(n int, call func(i int)) {
	var all sync.WaitGroup
	for i := range n {
		all.Go(func() { call(i) })
	}
	all.Wait()
}

// P3.9: each call is done once, whoever else calls
func TestSeveralAtOneTime(t *testing.T) {
	const callers, rounds = 8, 200
	d := made(t, callers)
	together(callers, func(i int) {
		for r := range rounds {
			if d.Write(i, fill(byte(r))) != api.OK {
				t.Error("a write failed")
			}
			if b, e := d.Read(i); e != api.OK || !bytes.Equal(b, fill(byte(r))) {
				t.Error("another's bytes are read:", e)
			}
			if r%10 == i && d.Barrier() != api.OK {
				t.Error("a barrier failed")
			}
		}
	})
	wantStats(t, "counts", d, api.DiskStats{Reads: callers * rounds, Writes: callers * rounds, Barriers: callers * rounds / 10})
	barrier(t, d)
	last := fill(byte(rounds - 1))
	wantImage(t, "the last bytes", d, last, last, last, last, last, last, last, last)
}

// P3.9: a queue has all that was written, and each caller's in its order
func TestSeveralWriters(t *testing.T) {
	const callers, rounds = 8, 100
	d := made(t, callers)
	together(callers, func(i int) {
		for r := range rounds {
			d.Write(i, fill(byte(r)))
		}
	})
	next := make([]byte, callers)
	for _, p := range d.Queue() {
		if !bytes.Equal(p.Data, fill(next[p.Sector])) {
			t.Fatal("a write out of its order, or torn:", p.Sector)
		}
		next[p.Sector]++
	}
	if !bytes.Equal(next, bytes.Repeat([]byte{rounds}, callers)) {
		t.Error("writes are missing:", next)
	}
}

// P3.9: so many faults come as were armed
func TestSeveralFaults(t *testing.T) {
	const callers, rounds = 8, 50
	d := made(t, 1)
	var refused [callers]int
	together(callers, func(i int) {
		for range rounds {
			if d.Fault(fault(reading, -1, 0, 1, false)) != api.OK {
				t.Error("a fault was not armed")
			}
			if _, e := d.Read(0); e == api.ErrIO {
				refused[i]++
			}
		}
	})
	sum := 0
	for _, n := range refused {
		sum += n
	}
	if s := d.Stats(); sum != callers*rounds || s.Failed != callers*rounds || s.Reads != 0 || len(d.Faults()) != 0 {
		t.Error("faults that came:", sum, s, d.Faults())
	}
}

// P3.9: what is told is of one moment, while others write, arm faults and crash
func TestTellersAtOneTime(t *testing.T) {
	for name, tell := range map[string]func(d *disk.Disk){
		"Read":   func(d *disk.Disk) { d.Read(1) },
		"Queue":  func(d *disk.Disk) { wantWholeQueue(t, d) },
		"Waits":  func(d *disk.Disk) { d.Waits(1) },
		"Image":  func(d *disk.Disk) { wantWholeImage(t, d) },
		"Faults": func(d *disk.Disk) { wantWholeFaults(t, d) },
		"Copy":   func(d *disk.Disk) { wantWholeImage(t, d.Copy()) },
		"Stats":  func(d *disk.Disk) { d.Stats() },
	} {
		t.Run(name, func(t *testing.T) {
			const rounds = 3000
			d := made(t, 8)
			together(4, func(i int) {
				for r := range rounds {
					if i > 0 {
						tell(d)
						continue
					}
					d.Fault(fault(writing, 0, 0, 1, true))
					d.Write(r%8, fill(byte(r%3)))
					d.Write((r+1)%8, fill(byte(r%2)))
					if r%3 == 0 {
						d.Barrier()
					}
					if r%20 == 0 {
						d.Crash([]bool{true})
					}
				}
			})
			if s := d.Stats(); s.Writes+s.Failed != 2*rounds || s.Barriers != rounds/3 || s.Crashes != rounds/20 {
				t.Error("counts:", s)
			}
		})
	}
}

func wantWholeQueue(t *testing.T, d *disk.Disk) {
	for _, p := range d.Queue() {
		if len(p.Data) != api.SectorSize || !bytes.Equal(p.Data, fill(p.Data[0])) {
			t.Error("a write in the queue is torn")
		}
	}
}

func wantWholeImage(t *testing.T, d *disk.Disk) {
	for b := d.Image(); len(b) > 0; b = b[api.SectorSize:] {
		if !bytes.Equal(b[:api.SectorSize], fill(b[0])) {
			t.Error("a sector is torn")
		}
	}
}

func wantWholeFaults(t *testing.T, d *disk.Disk) {
	for _, f := range d.Faults() {
		if f != fault(writing, 0, 0, 1, true) {
			t.Error("a fault that nobody armed:", f)
		}
	}
}
