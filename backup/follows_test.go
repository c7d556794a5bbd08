package backup_test

import (
	"fmt"
	"slices"
	"testing"

	"spindle/api"
)

// throwRow throws for the bytes of a device, and what is a hole of it, near those that it had before.
func throwRow(d *dice, before cells) cells {
	out := slices.Clone(before)
	for range d.below(4) {
		lo := d.below(len(out))
		hi := lo + 1 + d.below(len(out)-lo)
		cell := pick(d, inHole, 0, 1+d.below(255))
		for i := lo; i < hi; i++ {
			out[i] = cell
		}
	}
	return out
}

func bytesOf(c cells) []byte {
	out := make([]byte, len(c))
	for i, cell := range c {
		out[i] = byte(max(cell, 0))
	}
	return out
}

// extentsOf tells a row in extents, in which what differs from the row before is dirty, and now and then something else, too.
func extentsOf(d *dice, before, now cells) []extent {
	b, bb := bytesOf(before), bytesOf(now)
	var out []extent
	for i, cell := range now {
		x := extent{Off: uint64(i), Len: 1, Hole: cell == inHole, Dirty: b[i] != bb[i] || d.below(5) == 0, Unsaved: d.below(7) == 0}
		if n := len(out); n > 0 && d.below(4) > 0 && alike(out[n-1], x) {
			out[n-1].Len++
			continue
		}
		out = append(out, x)
	}
	return out
}

func alike(a, b extent) bool {
	return a.Hole == b.Hole && a.Dirty == b.Dirty && a.Unsaved == b.Unsaved
}

// joinedAt is the same chain with two neighbours joined.
func joinedAt(t *testing.T, what string, chain []archive, at int) []archive {
	t.Helper()
	joined, e := holdPair(t, what, chain[at], chain[at+1])
	wantErr(t, what+": Join", e, api.OK)
	return slices.Concat(chain[:at], []archive{joined}, chain[at+2:])
}

// holdRestored asks for a chain's bytes, and those of the same chain with two neighbours joined, down to one archive, whichever come first.
func holdRestored(t *testing.T, what string, d *dice, chain []archive, wanted []byte) {
	t.Helper()
	wantRestored(t, what, string(wanted), chain...)
	for at := range len(chain) - 1 {
		wantRestored(t, fmt.Sprint(what, ", joined at ", at), string(wanted), joinedAt(t, what, chain, at)...)
	}
	for len(chain) > 1 {
		chain = joinedAt(t, what, chain, d.below(len(chain)-1))
		wantRestored(t, fmt.Sprint(what, ", joined down to ", len(chain)), string(wanted), chain...)
	}
	wantRanges(t, what+", all joined: Changed", changedOf(t, chain[0]), ranges{{Lo: 0, Hi: int64(len(wanted))}})
}

// P25.8: a device that had some bytes, then others, and so on, is restored of its archives, over chains of every length.
func TestRestoreOfADevice(t *testing.T) {
	for seed := range 120 {
		d := dice(seed)
		length := 1 + seed%12
		now := throwRow(&d, make(cells, 1+d.below(40)))
		first, e := holdMake(t, "whole", 1000, 0, bytesOf(now), extentsOf(&d, now, now))
		wantErr(t, "whole", e, api.OK)
		chain := []archive{first}
		for len(chain) < length {
			next := throwRow(&d, now)
			parent := uint64(999 + len(chain))
			a, e := holdMake(t, "of what is dirty", parent+1, parent, bytesOf(next), extentsOf(&d, now, next))
			wantErr(t, "of what is dirty", e, api.OK)
			hold(t, "of what is dirty", a)
			chain, now = append(chain, a), next
			wantRestored(t, fmt.Sprint("device ", seed, " so far"), string(bytesOf(now)), chain...)
		}
		holdRestored(t, fmt.Sprint("device ", seed), &d, chain, bytesOf(now))
		if t.Failed() {
			t.Fatal("device", seed)
		}
	}
}

// throwPartial throws for an archive's runs, as a row.
func throwPartial(d *dice, size int) cells {
	out := emptyCells(uint64(size))
	for range d.below(5) {
		lo := d.below(size)
		for i := lo; i < min(size, lo+1+d.below(6)); i++ {
			out[i] = pick(d, inHole, 0, 1+d.below(255))
		}
	}
	for range d.below(3) {
		lo := d.below(size)
		cell := pick(d, nothing, inHole, 7)
		for i := lo; i < min(size, lo+1+d.below(size)); i++ {
			out[i] = cell
		}
	}
	return out
}

// P25.6, P25.8: in a chain of archives without a whole one it is no matter which neighbours are joined first.
func TestJoinsInAnyOrder(t *testing.T) {
	for seed := range 200 {
		d := dice(seed)
		size := 1 + d.below(20)
		var chain []archive
		for n := range 2 + seed%7 {
			chain = append(chain, since(uint64(2+n), uint64(1+n), uint64(size), runsOf(throwPartial(&d, size))...))
		}
		var ends []archive
		for range 3 {
			left := chain
			for len(left) > 1 {
				left = joinedAt(t, "joined", left, d.below(len(left)-1))
			}
			ends = append(ends, left[0])
		}
		wantArchive(t, "joined in another order", ends[1], ends[0])
		wantArchive(t, "joined in another order", ends[2], ends[0])
		hold(t, "all joined", ends[0])
		if t.Failed() {
			t.Fatal("chain", seed)
		}
	}
}

// P25.4, P25.8: a chain that was laid down and read again is the same chain.
func TestRestoreOfWhatWasRead(t *testing.T) {
	chain := chainOf(9)
	var read []archive
	for _, a := range chain {
		b, e := encodeOf(t, a)
		wantErr(t, "Encode", e, api.OK)
		back, e := decodeOf(t, b)
		wantErr(t, "Decode", e, api.OK)
		read = append(read, back)
	}
	wantRestored(t, "what was read", restored(t, chain), read...)
}
