package rule_test

import (
	"fmt"
	"math/big"
	"slices"
	"testing"

	"spindle/api"
)

// thrown throws for a call, mostly near to one that is right.
func thrown(d *dice) asked {
	e := api.Export{Sectors: pick(d, 8, 8, 8, 4096, 4096, 0, -1, 1<<55, 1<<55+8, 1<<55-1, 1<<63-1, -1<<63), ReadOnly: d.below(4) == 0, Min: pick[uint32](d, 0, 1, 1, 1, 512, 512, 3, 1000, 4096, 1<<32-1)}
	s := pick(d, sessions()...)
	command := pick(d, eight()...)
	if d.below(20) == 0 {
		command = pick(d, strange()...)
	}
	q := ask(s, command, 0, 0)
	for range d.below(3) {
		q.Flags ^= pick[uint16](d, 1, 1, 1, 2, 2, 4, 4, 8, 8, 16, 16, 16, 32, 64, 1<<15)
	}
	l := payload(pick[uint32](d, 0, 512, 1024, 65536, 1<<20, 1<<20, 1<<32-1))
	q.Offset, q.Length = thrownRange(d, e, l)
	if command == api.CmdRead && d.below(4) == 0 {
		q.Flags, q.Length = api.FlagDF, pick[uint64](d, 65535, 65536, 65537, 1<<20)
	}
	return asked{e, s, l, q}
}

// thrownRange throws for a range about the places that matter.
func thrownRange(d *dice, e api.Export, l api.Limits) (offset, length uint64) {
	size := bytesOf(e).Uint64()
	offset = pick(d, 0, 0, 0, 512, 1024, 3000, size, size-512, size/2, top, 1<<63, top-511)
	length = pick(d, 0, 512, 512, 1024, 3000, 65536, uint64(l.Payload), size, size-offset, -offset, top, 1<<63)
	if d.below(3) == 0 {
		offset += pick[uint64](d, 1, top, 2, 256)
	}
	if d.below(3) == 0 {
		length += pick[uint64](d, 1, top, 2, 256)
	}
	return offset, length
}

// P11.2, R1, R3: thrown calls against the plain reading; each rule, and no rule at all, is told many times.
func TestThrown(t *testing.T) {
	d := dice(13)
	first := map[int]int{}
	for range 300000 {
		x := thrown(&d)
		l := append(applies(x), 0)
		first[l[0]]++
		if got, code := x.check(), plain(x); got != code {
			t.Fatalf("%v: %d, want %d (rules %v)", x, got, code, l)
		}
	}
	for n := range 12 {
		if first[n] < 100 {
			t.Errorf("rule %d was the first one only %d times", n, first[n])
		}
	}
}

// P11.3: each byte of a range that is right lies in the export.
func TestRightRangesLieInside(t *testing.T) {
	d := dice(31)
	seen := map[uint16]int{}
	for range 300000 {
		x := thrown(&d)
		if !slices.Contains(ranged(), x.q.Type) || x.check() != 0 {
			continue
		}
		seen[x.q.Type]++
		if x.q.Length == 0 || last(x.q).Cmp(bytesOf(x.e)) > 0 || last(x.q).Cmp(big.NewInt(0)) <= 0 {
			t.Fatalf("%v: right, and it is not inside", x)
		}
	}
	for _, c := range ranged() {
		if seen[c] < 300 {
			t.Errorf("command %d was right only %d times", c, seen[c])
		}
	}
}

// P11.3: what is refused for an export that may be changed is refused for the same one that is ReadOnly; of what changes nothing it is with the same error.
func TestReadOnlyRefusesMore(t *testing.T) {
	d := dice(7)
	for range 300000 {
		x := thrown(&d)
		x.e.ReadOnly = false
		code := x.check()
		x.e.ReadOnly = true
		got := x.check()
		if code != 0 && got == 0 {
			t.Fatalf("%v: right, and refused of one that may be changed", x)
		}
		if changes := slices.Contains([]uint16{1, 4, 6}, x.q.Type); changes && got == 0 || !changes && got != code {
			t.Fatalf("%v: %d, of one that may be changed %d", x, got, code)
		}
	}
}

// W4: a refusal is one of the protocol's errors, and of those that the chapter names.
func TestPublishedErrors(t *testing.T) {
	d := dice(4)
	seen := map[uint32]int{}
	for range 300000 {
		seen[thrown(&d).check()]++
	}
	for _, code := range []uint32{0, 1, 22, 28, 75, 95} {
		if seen[code] == 0 {
			t.Errorf("%d is never told", code)
		}
		delete(seen, code)
	}
	want(t, "other codes", fmt.Sprint(seen), "map[]")
}
