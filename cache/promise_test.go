package cache_test

import (
	"testing"

	"spindle/api"
)

// moves are the calls that the tests below put together, on a disk of 4 sectors.
var moves = []func(w *twin){
	func(w *twin) { w.write(0) },
	func(w *twin) { w.write(1) },
	func(w *twin) { w.write(2) },
	func(w *twin) { w.write(3) },
	func(w *twin) { w.read(0) },
	func(w *twin) { w.read(2) },
	func(w *twin) { w.read(3) },
	func(w *twin) { w.flush() },
	func(w *twin) { w.through(0) },
	func(w *twin) { w.through(3, 2, 3) },
	func(w *twin) { w.through() },
	func(w *twin) { w.back() },
}

// sequences goes through all lists of so many moves.
func sequences(length int, do func(list []int) bool) bool {
	list := make([]int, length)
	for {
		if !do(list) {
			return false
		}
		i := length - 1
		for ; i >= 0 && list[i] == len(moves)-1; i-- {
			list[i] = 0
		}
		if i < 0 {
			return true
		}
		list[i]++
	}
}

// P5.2 to P5.10: all short lists of calls, without faults
func TestEachShortList(t *testing.T) {
	for lines := 1; lines <= 3; lines++ {
		sequences(3, func(list []int) bool {
			w := newTwin(t, 4, lines)
			for _, m := range list {
				moves[m](w)
			}
			return !w.bad
		})
	}
}

// P5.2 to P5.10: all pairs of calls behind some beginnings, with each kind of fault at each place at which the disk is asked; a Flush behind it, of which all goes well at last
func TestEachFaultAtEachPlace(t *testing.T) {
	beginnings := [][]int{{}, {2, 0}, {0, 2, 3}, {3, 1, 0}, {2, 11, 0, 2}}
	for lines := 1; lines <= 3; lines++ {
		for _, beginning := range beginnings {
			for _, kind := range []int{reading, writing, barring} {
				for _, land := range []bool{false, true} {
					if land && kind != writing {
						continue
					}
					eachPlace(t, lines, beginning, kind, land)
				}
			}
		}
	}
}

// eachPlace plays all pairs of calls, the fault being one place further on each time, until it does not strike.
func eachPlace(t *testing.T, lines int, beginning []int, kind int, land bool) {
	t.Helper()
	sequences(2, func(list []int) bool {
		for after := 0; ; after++ {
			w := newTwin(t, 4, lines)
			for _, m := range beginning {
				moves[m](w)
			}
			w.arm(kind, -1, after, 1, land)
			for _, m := range list {
				moves[m](w)
			}
			if w.bad || len(w.d.Faults()) > 0 {
				return !w.bad
			}
			w.compare("Flush, with no fault armed", w.flush(), api.OK)
		}
	})
}

// step makes a call, arms a fault or lets the machine fall, as the dice say.
func (w *twin) step(throw *dice) {
	n := len(w.was)
	switch k := throw.below(100); {
	case k < 25:
		w.read(throw.below(n))
	case k < 65:
		w.write(throw.below(n))
	case k < 70:
		w.flush()
	case k < 80:
		var sectors []int
		for range throw.below(4) {
			sectors = append(sectors, throw.below(n))
		}
		w.through(sectors...)
	case k < 88:
		w.back()
	case k < 98:
		if len(w.d.Faults()) < 4 {
			w.arm(1+throw.below(3), throw.below(n+1)-1, throw.below(4), 1+throw.below(3), throw.below(2) == 0)
		}
	default:
		keep := make([]bool, throw.below(len(w.d.Queue())+3))
		for i := range keep {
			keep[i] = throw.below(2) == 0
		}
		w.crash(keep, 1+throw.below(6))
	}
}

// P5.2 to P5.10: long lists of calls, faults and crashes
func TestLongLists(t *testing.T) {
	throw := dice(5)
	for round := range 150 {
		w := newTwin(t, 3+round%7, 1+round%5)
		for range 150 {
			if w.step(&throw); w.bad {
				return
			}
		}
		w.spend()
	}
}

// spend flushes until the faults that it meets are spent: of at most four there are at most three failures each, and three times that it goes well.
func (w *twin) spend() {
	for range 4 * (3 + 3) {
		if w.flush() == api.OK {
			return
		}
	}
	w.compare("Flush at last", w.flush(), api.OK)
}

// P5.2 to P5.7: more lines and sectors than above, mostly without faults
func TestLongListsOfManyLines(t *testing.T) {
	throw := dice(55)
	for round := range 6 {
		w := newTwin(t, 60, 20+5*round)
		for range 600 {
			n := throw.below(60)
			switch throw.below(12) {
			case 0:
				w.through(n, throw.below(60), n, throw.below(60))
			case 1:
				w.back()
			case 2, 3, 4:
				w.read(n)
			case 5:
				w.write(throw.below(twinNotes))
			default:
				w.write(n)
			}
			if throw.below(200) == 0 {
				w.flush()
			}
			if w.bad {
				return
			}
		}
	}
}
