package backup_test

import (
	"fmt"
	"slices"
	"testing"

	"spindle/api"
)

// P25.5: of no archive there is nothing to restore.
func TestRestoreOfNone(t *testing.T) {
	wantNotRestored(t, "no archive", 0, api.ErrArg)
	_, _, e := restoreOf(t, []archive{})
	wantErr(t, "an empty list", e, api.ErrArg)
}

func TestRestoreOfOne(t *testing.T) {
	wantRestored(t, "data", "abcd", full(1, data(0, "abcd")))
	wantRestored(t, "a hole", zeros(4), full(1, hole(0, 4)))
	wantRestored(t, "both", "ab"+zeros(3)+"c"+zeros(1), full(1, data(0, "ab"), hole(2, 3), data(5, "c"), hole(6, 1)))
	wantRestored(t, "data that are bytes 0", zeros(5), full(1, data(0, zeros(2)), hole(2, 3)))
}

// P25.5: runs that lie over others wholly, in part, at their front, end and midst; the one archive is always laid over "abcd", a hole of four, "efgh".
func TestRestoreOfRunsOverOthers(t *testing.T) {
	base := full(1, data(0, "abcd"), hole(4, 4), data(8, "efgh"))
	z := zeros(4)
	for _, x := range []struct {
		name   string
		runs   []run
		wanted string
	}{
		{"nothing", nil, "abcd" + z + "efgh"},
		{"all, data", []run{data(0, "ABCDEFGHIJKL")}, "ABCDEFGHIJKL"},
		{"all, a hole", []run{hole(0, 12)}, zeros(12)},
		{"data wholly, data", []run{data(0, "ABCD")}, "ABCD" + z + "efgh"},
		{"data wholly, a hole", []run{hole(0, 4)}, z + z + "efgh"},
		{"a hole wholly, data", []run{data(4, "ABCD")}, "abcdABCDefgh"},
		{"a hole wholly, a hole", []run{hole(4, 4)}, "abcd" + z + "efgh"},
		{"the front of data", []run{data(0, "A")}, "Abcd" + z + "efgh"},
		{"the front of data, a hole", []run{hole(8, 2)}, "abcd" + z + "\x00\x00gh"},
		{"the end of data", []run{data(3, "D")}, "abcD" + z + "efgh"},
		{"the end of data, a hole", []run{hole(10, 2)}, "abcd" + z + "ef\x00\x00"},
		{"the midst of data", []run{data(1, "BC")}, "aBCd" + z + "efgh"},
		{"the midst of data, a hole", []run{hole(1, 2)}, "a\x00\x00d" + z + "efgh"},
		{"the front of a hole", []run{data(4, "AB")}, "abcdAB\x00\x00efgh"},
		{"the end of a hole", []run{data(6, "AB")}, "abcd\x00\x00ABefgh"},
		{"the midst of a hole", []run{data(5, "AB")}, "abcd\x00AB\x00efgh"},
		{"data over the end of data and the front of a hole", []run{data(3, "DE")}, "abcDE" + zeros(3) + "efgh"},
		{"a hole over the end of a hole and the front of data", []run{hole(7, 2)}, "abcd" + zeros(5) + "fgh"},
		{"a hole over all of a hole and a byte beside", []run{hole(3, 6)}, "abc" + zeros(6) + "fgh"},
		{"data over all of a hole and a byte beside", []run{data(3, "ABCDEF")}, "abcABCDEFfgh"},
		{"many", []run{data(0, "A"), hole(1, 1), data(3, "DE"), hole(6, 1), data(7, "HI"), hole(11, 1)}, "A\x00cDE\x00\x00HIfg\x00"},
		{"many within one", []run{data(8, "E"), data(10, "G")}, "abcd" + z + "EfGh"},
		{"data that are bytes 0", []run{data(1, zeros(2))}, "a\x00\x00d" + z + "efgh"},
	} {
		wantRestored(t, x.name, x.wanted, base, since(2, 1, 12, x.runs...))
		wantRestored(t, x.name+", and then nothing", x.wanted, base, since(2, 1, 12, x.runs...), since(3, 2, 12))
		wantRestored(t, x.name+", nothing between", x.wanted, base, since(9, 1, 12), since(2, 9, 12, x.runs...))
		wantRestored(t, x.name+", twice", x.wanted, base, since(9, 1, 12, x.runs...), since(2, 9, 12, x.runs...))
		wantRestored(t, x.name+", all else ahead", x.wanted, full(4, data(0, text(12))), since(1, 4, 12, base.Runs...), since(2, 1, 12, x.runs...))
	}
}

// P25.5: the runs are laid down in the chain's order, however long it is.
func TestRestoreOfLongChains(t *testing.T) {
	for n := range 40 {
		chain := []archive{full(100, hole(0, 8))}
		device := []byte(zeros(8))
		for k := range n {
			r := data(uint64(k%7), string([]byte{byte('a' + k%26), byte('A' + k%26)}))
			if k%5 == 3 {
				r = hole(uint64(k%7), 2)
			}
			chain = append(chain, since(uint64(101+k), uint64(100+k), 8, r))
			copy(device[r.Off:], append(slices.Clone(r.Data), 0, 0)[:2])
		}
		wantRestored(t, fmt.Sprint("a chain of ", n+1), string(device), chain...)
	}
}

// P25.5: an ID may come again, as long as each archive follows the one ahead.
func TestRestoreOfIDsThatComeAgain(t *testing.T) {
	wantRestored(t, "1, 2, 1", "XYZd", full(1, data(0, "abcd")), since(2, 1, 4, data(0, "XX")), since(1, 2, 4, data(1, "YZ")))
	wantRestored(t, "1, 2, 1, 2", "XYWd", full(1, data(0, "abcd")), since(2, 1, 4, data(0, "XX")), since(1, 2, 4, data(1, "YZ")), since(2, 1, 4, data(2, "W")))
}

// chainOf gives a chain that is right.
func chainOf(length int) []archive {
	chain := []archive{full(10, data(0, "abc"), hole(3, 3))}
	for n := 1; n < length; n++ {
		chain = append(chain, since(uint64(10+n), uint64(9+n), 6, data(uint64(n%5), "XY")))
	}
	return chain
}

// What may be wrong with an archive in a chain, and the error.
func breaks() map[string]func(*archive) api.Errno {
	return map[string]func(*archive) api.Errno{
		"may not be":               func(a *archive) api.Errno { a.Runs = []run{hole(7, 1)}; return api.ErrArchive },
		"an ID of 0":               func(a *archive) api.Errno { a.ID = 0; return api.ErrArchive },
		"its own parent":           func(a *archive) api.Errno { a.Parent = a.ID; return api.ErrArchive },
		"a Size too great":         func(a *archive) api.Errno { a.Size = most + 1; return api.ErrArchive },
		"another parent":           func(a *archive) api.Errno { a.Parent += 100; return api.ErrLink },
		"may not be, another link": func(a *archive) api.Errno { a.Runs, a.Parent = []run{data(2, "")}, 77; return api.ErrArchive },
	}
}

// What may be wrong with one behind the first.
func laterBreaks() map[string]func(*archive) api.Errno {
	out := breaks()
	out["another Size"] = func(a *archive) api.Errno { a.Size++; return api.ErrLink }
	out["a lesser Size"] = func(a *archive) api.Errno { a.Size, a.Runs = 5, nil; return api.ErrLink }
	out["the ID behind the right one as its parent"] = func(a *archive) api.Errno { a.Parent++; a.ID += 100; return api.ErrLink }
	out["a whole one"] = func(a *archive) api.Errno { a.Parent, a.Runs = 0, []run{hole(0, 6)}; return api.ErrLink }
	return out
}

// P25.5: each error at each place.
func TestRestoreOfChainsThatAreBroken(t *testing.T) {
	for length := 1; length < 7; length++ {
		wantRestored(t, "a right chain", restored(t, chainOf(length)), chainOf(length)...)
		for place := range length {
			wrong := laterBreaks()
			if place == 0 {
				wrong = breaks()
			}
			for name, spoilIt := range wrong {
				chain := chainOf(length)
				e := spoilIt(&chain[place])
				wantNotRestored(t, fmt.Sprint(name, " at ", place, " of ", length), place, e, chain...)
			}
		}
	}
}

func restored(t *testing.T, chain []archive) string {
	t.Helper()
	b, _, e := plainRestore(chain)
	wantErr(t, "a right chain, read plainly", e, api.OK)
	return string(b)
}

// P25.5: of two errors the one that comes first in the chain; at one place ErrArchive.
func TestRestoreTellsTheFirstError(t *testing.T) {
	for first := range 5 {
		for name, one := range laterBreaks() {
			if first == 0 && breaks()[name] == nil {
				continue
			}
			for second := first + 1; second < 5; second++ {
				for other, two := range laterBreaks() {
					chain := chainOf(5)
					e := one(&chain[first])
					two(&chain[second])
					wantNotRestored(t, fmt.Sprint(name, " at ", first, ", ", other, " at ", second), first, e, chain...)
				}
			}
		}
	}
}

// P25.5: other ways in which archives do not make a chain.
func TestRestoreOfNoChain(t *testing.T) {
	chain := chainOf(4)
	wantNotRestored(t, "without its beginning", 0, api.ErrLink, chain[1:]...)
	wantNotRestored(t, "without its second", 1, api.ErrLink, chain[0], chain[2], chain[3])
	wantNotRestored(t, "without its third", 2, api.ErrLink, chain[0], chain[1], chain[3])
	wantNotRestored(t, "the first twice", 1, api.ErrLink, chain[0], chain[0], chain[1])
	wantNotRestored(t, "the second twice", 2, api.ErrLink, chain[0], chain[1], chain[1])
	wantNotRestored(t, "two that are swapped", 1, api.ErrLink, chain[0], chain[2], chain[1])
	wantNotRestored(t, "the other way round", 0, api.ErrLink, chain[3], chain[2], chain[1], chain[0])
	wantNotRestored(t, "the first behind all", 4, api.ErrLink, slices.Concat(chain, chain[:1])...)
	wantRestored(t, "without its last", restored(t, chain[:3]), chain[:3]...)
}
