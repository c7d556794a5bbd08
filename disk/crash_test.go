package disk_test

import (
	"slices"
	"testing"

	"spindle/api"
)

// P3.6, P3.10: every mixture of a queue of four writes
func TestCrashOfEachMixture(t *testing.T) {
	queue := []api.Put{put(0, row(11)), put(1, row(12)), put(0, row(13)), put(2, fill(0))}
	for mixture := range 16 {
		safe := [][]byte{row(1), row(2), row(3), row(4)}
		d := loaded(t, slices.Concat(safe...))
		var keep []bool
		for i, p := range queue {
			write(t, d, p.Sector, p.Data)
			keep = append(keep, mixture>>i&1 == 1)
			if keep[i] {
				safe[p.Sector] = p.Data
			}
		}
		d.Crash(keep)
		wantImage(t, "a mixture", d, safe...)
		for n := range safe {
			wantRead(t, d, n, safe[n])
			if d.Waits(n) {
				t.Error("behind a crash there waits", n)
			}
		}
		wantQueue(t, "behind a crash", d)
	}
}

// P3.6: a list that is shorter or longer than the queue
func TestCrashWithOtherLists(t *testing.T) {
	for _, c := range []struct {
		keep []bool
		want [][]byte
	}{
		{nil, [][]byte{row(1), row(2)}},
		{[]bool{}, [][]byte{row(1), row(2)}},
		{[]bool{true}, [][]byte{row(3), row(2)}},
		{[]bool{false, true}, [][]byte{row(1), row(4)}},
		{[]bool{true, true, true, true, true, true}, [][]byte{row(5), row(4)}},
		{[]bool{false, false, false, true, true, true}, [][]byte{row(1), row(2)}},
	} {
		d := loaded(t, slices.Concat(row(1), row(2)))
		write(t, d, 0, row(3))
		write(t, d, 1, row(4))
		write(t, d, 0, row(5))
		before := slices.Clone(c.keep)
		d.Crash(c.keep)
		if !slices.Equal(c.keep, before) {
			t.Error("what was handed in is changed")
		}
		wantImage(t, "another list", d, c.want...)
		wantStats(t, "another list", d, api.DiskStats{Writes: 3, Crashes: 1})
	}
}

// P3.6: what lies behind the end of the list does not keep a write
func TestCrashLooksAtNoSpareRoom(t *testing.T) {
	d := made(t, 2)
	write(t, d, 0, row(1))
	write(t, d, 1, row(2))
	d.Crash([]bool{true, true}[:1])
	wantImage(t, "spare room", d, row(1), fill(0))
}

// P3.6: no fault is armed; the counts stay
func TestCrashOfABusyDisk(t *testing.T) {
	d := busy(t)
	before := lookAt(d)
	if len(before.faults) == 0 || len(before.queue) == 0 {
		t.Fatal("the disk is not busy")
	}
	d.Crash(nil)
	before.faults, before.queue, before.waits = nil, nil, make([]bool, 4)
	before.stats.Crashes++
	wantLook(t, "a crash", d, before)
	barrier(t, d)
	d.Crash([]bool{true})
	before.stats.Barriers++
	before.stats.Crashes++
	wantLook(t, "a crash of an empty queue", d, before)
}

// P3.6: what is kept at a crash is safe at the next one
func TestCrashAfterCrash(t *testing.T) {
	d := made(t, 2)
	write(t, d, 0, row(1))
	write(t, d, 1, row(2))
	d.Crash([]bool{true, false})
	write(t, d, 1, row(3))
	wantQueue(t, "a new queue", d, put(1, row(3)))
	d.Crash([]bool{false, true})
	wantImage(t, "the second crash", d, row(1), fill(0))
}
