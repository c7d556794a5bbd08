package rule_test

import (
	"fmt"
	"slices"
	"testing"

	"spindle/api"
)

// A pair is a call to which two rules apply, of which the earlier one is told.
type pair struct {
	first, then int
	x           asked
}

// pairs has each two rules that can apply at one time, laid down by hand.
func pairs() []pair {
	with := telling(chunks)
	at := func(e api.Export, command, flags uint16, offset, length uint64) asked {
		return asked{e, with, payload(1 << 20), api.Request{Type: command, Flags: flags, Offset: offset, Length: length}}
	}
	out := []pair{
		{1, 2, at(small(), 8, api.FlagFua, 0, 512)},
		{1, 6, at(small(), 8, 0, 0, 0)},
		{1, 8, at(large(), 65535, api.FlagDF, 0, 65537)},
		{1, 9, at(small(), 9, 0, 4096, 512)},
		{1, 10, at(small(), 8, 0, 1, 512)},
		{1, 11, at(large(), 8, api.FlagFast, 1, 512)},

		{2, 3, at(small(), api.CmdFlush, api.FlagOne, 0, 1)},
		{2, 4, at(only(small()), api.CmdWrite, api.FlagDF, 0, 512)},
		{2, 6, at(small(), api.CmdCache, 64, 0, 0)},
		{2, 8, at(large(), api.CmdCache, api.FlagDF, 0, 65537)},
		{2, 9, at(small(), api.CmdZeroes, api.FlagOne, 4096, 512)},
		{2, 10, at(small(), api.CmdTrim, api.FlagFast, 0, 511)},
		{2, 11, at(large(), api.CmdZeroes, api.FlagFast|api.FlagDF, 0, 511)},

		{4, 6, at(only(small()), api.CmdWrite, 0, 0, 0)},
		{4, 9, at(only(small()), api.CmdZeroes, 0, 4096, 512)},
		{4, 10, at(only(small()), api.CmdTrim, 0, 1, 512)},
		{4, 11, at(only(large()), api.CmdZeroes, api.FlagFast|api.FlagNoHole, 0, 512)},

		{6, 9, at(small(), api.CmdWrite, 0, 4608, 0)},
		{6, 10, at(small(), api.CmdZeroes, 0, 1, 0)},
		{6, 11, at(large(), api.CmdZeroes, api.FlagFast, 1, 0)},

		{8, 9, at(small(), api.CmdRead, api.FlagDF, 0, 66048)},
		{8, 10, at(blocks(large(), 512), api.CmdRead, api.FlagDF, 0, 65537)},
		{9, 10, at(small(), api.CmdWrite, 0, 4095, 512)},
		{9, 11, at(large(), api.CmdZeroes, api.FlagFast, 2097151, 512)},
		{10, 11, at(small(), api.CmdZeroes, api.FlagFast, 0, 511)},
	}
	return append(out, pairsOfLimits()...)
}

// pairsOfLimits has those with rules 5 and 7, for which the session or the limits are others.
func pairsOfLimits() []pair {
	status := func(e api.Export, flags uint16, offset, length uint64) asked {
		return asked{e, chunks, payload(1 << 20), api.Request{Type: api.CmdStatus, Flags: flags, Offset: offset, Length: length}}
	}
	low := func(e api.Export, command, flags uint16, offset, length uint64) asked {
		return asked{e, chunks, payload(512), api.Request{Type: command, Flags: flags, Offset: offset, Length: length}}
	}
	return []pair{
		{2, 5, status(small(), api.FlagNoHole, 0, 512)},
		{5, 6, status(small(), 0, 0, 0)},
		{5, 9, status(small(), 0, 4096, 512)},
		{5, 10, status(small(), 0, 1, 512)},
		{2, 7, low(small(), api.CmdRead, api.FlagOne, 0, 1024)},
		{4, 7, low(only(small()), api.CmdWrite, 0, 0, 1024)},
		{7, 8, low(large(), api.CmdRead, api.FlagDF, 0, 65537)},
		{7, 9, low(small(), api.CmdWrite, 0, 3584, 1024)},
		{7, 10, low(small(), api.CmdWrite, 0, 1, 1024)},
	}
}

// P11.2, R3: of each two that apply the earlier one is told.
func TestPairs(t *testing.T) {
	for _, p := range pairs() {
		what := fmt.Sprintf("rule %d ahead of rule %d", p.first, p.then)
		l := applies(p.x)
		if !slices.Contains(l, p.first) || !slices.Contains(l, p.then) || l[0] != p.first {
			t.Errorf("%s: the call of the table breaks %v", what, l)
		}
		wantCheck(t, what, p.x, told(p.first, p.x.q.Type))
	}
}

// P11.2: the table of pairs lacks none that thrown calls lead to.
func TestPairsAreAll(t *testing.T) {
	var had [12][12]bool
	for _, p := range pairs() {
		had[p.first][p.then] = true
	}
	d := dice(5)
	for range 300000 {
		x := thrown(&d)
		l := applies(x)
		for i := 1; i < len(l); i++ {
			if !had[l[0]][l[i]] {
				had[l[0]][l[i]] = true
				t.Errorf("rules %d and %d: %v is not in the table", l[0], l[i], x)
			}
		}
	}
}

// P11.2: each rule alone, and the same call mended.
func TestAlone(t *testing.T) {
	with := telling(chunks)
	for _, x := range []struct {
		rule        int
		wrong, good asked
		code        uint32
	}{
		{1, asked{large(), with, payload(512), api.Request{Type: 8, Length: 512}}, asked{large(), with, payload(512), api.Request{Type: 7, Length: 512}}, 22},
		{2, asked{large(), with, payload(512), api.Request{Flags: 2, Length: 512}}, asked{large(), with, payload(512), api.Request{Flags: 1, Length: 512}}, 22},
		{2, asked{large(), neither, payload(512), api.Request{Flags: 4, Length: 512}}, asked{large(), wide, payload(512), api.Request{Flags: 4, Length: 512}}, 22},
		{2, asked{large(), wide, payload(512), api.Request{Type: 1, Length: 512}}, asked{large(), wide, payload(512), api.Request{Type: 1, Flags: 32, Length: 512}}, 22},
		{3, asked{large(), with, payload(512), api.Request{Type: 3, Offset: 1}}, asked{large(), with, payload(512), api.Request{Type: 3}}, 22},
		{4, asked{only(large()), with, payload(512), api.Request{Type: 4, Length: 512}}, asked{large(), with, payload(512), api.Request{Type: 4, Length: 512}}, 1},
		{5, asked{large(), chunks, payload(512), api.Request{Type: 7, Length: 512}}, asked{large(), with, payload(512), api.Request{Type: 7, Length: 512}}, 22},
		{5, asked{large(), telling(neither), payload(512), api.Request{Type: 7, Length: 512}}, asked{large(), telling(wide), payload(512), api.Request{Type: 7, Length: 512}}, 22},
		{6, asked{large(), with, payload(512), api.Request{}}, asked{large(), with, payload(512), api.Request{Length: 1}}, 22},
		{7, asked{large(), with, payload(512), api.Request{Length: 513}}, asked{large(), with, payload(513), api.Request{Length: 513}}, 22},
		{8, asked{large(), with, payload(1 << 20), api.Request{Flags: 4, Length: 65537}}, asked{large(), with, payload(1 << 20), api.Request{Flags: 4, Length: 65536}}, 75},
		{9, asked{large(), with, payload(512), api.Request{Type: 1, Offset: 1 << 21, Length: 1}}, asked{large(), with, payload(512), api.Request{Type: 1, Offset: 1<<21 - 1, Length: 1}}, 28},
		{9, asked{large(), with, payload(512), api.Request{Type: 5, Offset: 1 << 21, Length: 1}}, asked{large(), with, payload(512), api.Request{Type: 5, Offset: 1<<21 - 1, Length: 1}}, 22},
		{10, asked{small(), with, payload(512), api.Request{Offset: 1, Length: 512}}, asked{small(), with, payload(512), api.Request{Offset: 512, Length: 512}}, 22},
		{11, asked{large(), with, payload(512), api.Request{Type: 6, Flags: 16, Length: 513}}, asked{large(), with, payload(512), api.Request{Type: 6, Length: 513}}, 95},
	} {
		what := fmt.Sprintf("rule %d", x.rule)
		want(t, what+": what the table's call breaks", fmt.Sprint(applies(x.wrong)), fmt.Sprint([]int{x.rule}))
		wantCheck(t, what, x.wrong, x.code)
		wantCheck(t, what+", mended", x.good, 0)
	}
}
