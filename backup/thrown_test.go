package backup_test

import (
	"fmt"
	"math"
	"slices"
	"testing"

	"spindle/api"
)

// throwArchive throws for an archive that may be.
func throwArchive(d *dice, id, parent, size uint64) archive {
	c := throwPartial(d, int(size))
	if parent == 0 {
		c = over(make(cells, size), c)
	}
	return archive{ID: id, Parent: parent, Size: size, Runs: runsOf(c)}
}

// throwWrong changes something of an archive, so that most of them may not be.
func throwWrong(d *dice, a *archive) {
	n := 0
	if len(a.Runs) > 0 {
		n = d.below(len(a.Runs))
	}
	number := func() uint64 { return pick(d, 0, 1, uint64(d.below(30)), a.Size, math.MaxUint64, 1<<63) }
	switch k := d.below(9); {
	case k == 0:
		a.ID = number()
	case k == 1:
		a.Parent = number()
	case k == 2:
		a.Size += pick[uint64](d, 1, 2, math.MaxUint64)
	case len(a.Runs) == 0:
		a.Runs = []run{pick(d, hole(number(), number()), data(number(), text(d.below(9))))}
	case k == 3:
		a.Runs[n].Off += pick[uint64](d, 1, 2, math.MaxUint64)
	case k == 4:
		a.Runs[n].Len += pick[uint64](d, 1, 2, math.MaxUint64)
	case k == 5:
		a.Runs[n].Hole = !a.Runs[n].Hole
	case k == 6:
		a.Runs = slices.Delete(a.Runs, n, n+1)
	case k == 7:
		a.Runs = slices.Insert(a.Runs, n, pick(d, hole(number(), number()), data(number(), text(d.below(4)))))
	default:
		a.Runs[n].Data = a.Runs[n].Data[:max(0, len(a.Runs[n].Data)-d.below(2))]
	}
}

// P25.1 to P25.7: archives that are thrown, of which some may not be, two by two and as chains, held against the plain reading.
func TestThrownArchives(t *testing.T) {
	met := map[string]int{}
	for seed := range 3000 {
		d := dice(seed)
		size := uint64(1 + d.below(16))
		var chain []archive
		for n := range 1 + d.below(5) {
			id, parent := uint64(n+1), uint64(n)
			if d.below(8) == 0 {
				parent = uint64(d.below(6))
			}
			a := throwArchive(&d, id, parent, pick(&d, size, size, size, size, size, size, size, size, size+1))
			if d.below(6) == 0 {
				throwWrong(&d, &a)
			}
			chain = append(chain, a)
		}
		what := fmt.Sprint("chain ", seed)
		for n, a := range chain {
			if plainMayBe(a) {
				hold(t, what, a)
			} else {
				wantErr(t, what+": Check", checkOf(t, a), api.ErrArchive)
				wantRanges(t, what+": Changed", changedOf(t, a), nil)
				met["may not be"]++
			}
			_, e := holdPair(t, what, a, chain[(n+1)%len(chain)])
			met[fmt.Sprint("Join ", e)]++
		}
		holdChain(t, what, chain)
		_, _, e := plainRestore(chain)
		met[fmt.Sprint("Restore ", e)]++
		if t.Failed() {
			t.Fatal(what)
		}
	}
	for _, kind := range []string{"may not be", "Join 0", "Join 250", "Join 251", "Restore 0", "Restore 250", "Restore 251"} {
		if met[kind] < 50 {
			t.Error("hardly met:", kind, met[kind])
		}
	}
}

// P25.2: extents and bytes that are thrown, of which some do not make up the device.
func TestThrownMakes(t *testing.T) {
	met := map[api.Errno]int{}
	for seed := range 5000 {
		d := dice(seed)
		now := throwRow(&d, make(cells, 1+d.below(20)))
		b, l := bytesOf(now), extentsOf(&d, throwRow(&d, now), now)
		n := d.below(len(l))
		switch d.below(12) {
		case 0:
			l[n].Off += pick[uint64](&d, 1, math.MaxUint64, 1<<63)
		case 1:
			l[n].Len += pick[uint64](&d, 1, math.MaxUint64, 1<<63)
		case 2:
			l = slices.Delete(l, n, n+1)
		case 3:
			l[n].Hole = !l[n].Hole
		case 4:
			b[d.below(len(b))] ^= 1
		case 5:
			b = b[:len(b)-1]
		}
		id, parent := uint64(d.below(9)), uint64(pick(&d, 0, d.below(9)))
		a, e := holdMake(t, fmt.Sprint("Make ", seed), id, parent, b, l)
		met[e]++
		if e == api.OK {
			hold(t, fmt.Sprint("Make ", seed), a)
		}
		if t.Failed() {
			t.Fatal("Make", seed)
		}
	}
	for _, e := range []api.Errno{api.OK, api.ErrArg, api.ErrDevice} {
		if met[e] < 500 {
			t.Error("hardly met: error", e, met[e])
		}
	}
}
