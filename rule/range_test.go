package rule_test

import (
	"fmt"
	"testing"

	"spindle/api"
)

// beyond is the error of a range that reaches beyond the size, laid down by hand.
func beyond(command uint16) uint32 {
	if command == api.CmdWrite || command == api.CmdZeroes {
		return api.ENoSpc
	}
	return api.EInval
}

// wantOfAll asks a range of all commands that have one: 0 where it is inside, else each command's error.
func wantOfAll(t *testing.T, what string, e api.Export, offset, length uint64, inside bool) {
	t.Helper()
	for _, s := range []api.Session{telling(chunks), telling(wide), telling(both)} {
		for _, c := range ranged() {
			code := uint32(0)
			if !inside {
				code = beyond(c)
			}
			wantCheck(t, what, asked{e, s, payload(1<<32 - 1), ask(s, c, offset, length)}, code)
		}
	}
}

// P11.2, rule 3: a CmdDisc is right, whatever its range, its export and the limits.
func TestDisc(t *testing.T) {
	for _, s := range sessions() {
		for _, e := range []api.Export{small(), only(small()), sectors(small(), 0), sectors(small(), -1)} {
			for _, r := range [][2]uint64{{0, 0}, {0, 512}, {1, 1}, {4096, 1}, {top, top}, {0, top}, {top, 0}} {
				for _, f := range []uint16{0, api.FlagFua} {
					q := api.Request{Type: api.CmdDisc, Flags: f, Offset: r[0], Length: r[1]}
					wantCheck(t, "CmdDisc", asked{e, s, payload(512), q}, 0)
					q.Flags |= api.FlagOne
					wantCheck(t, "CmdDisc with a wrong flag", asked{e, s, payload(512), q}, api.EInval)
				}
			}
		}
	}
}

// P11.2, rule 3: a CmdFlush has no range, and with none nothing more is asked (Length 0 is no fault of it).
func TestFlush(t *testing.T) {
	for _, s := range sessions() {
		for _, e := range []api.Export{small(), only(small()), sectors(small(), 0), sectors(small(), -1)} {
			for _, f := range []uint16{0, api.FlagFua} {
				x := asked{e, s, api.Limits{}, api.Request{Type: api.CmdFlush, Flags: f}}
				wantCheck(t, "without a range", x, 0)
				for _, v := range []uint64{1, 512, 4096, 4097, 1 << 32, 1 << 63, top} {
					x.q.Offset, x.q.Length = v, 0
					wantCheck(t, "an Offset", x, api.EInval)
					x.q.Offset, x.q.Length = 0, v
					wantCheck(t, "a Length", x, api.EInval)
					x.q.Offset, x.q.Length = v, v
					wantCheck(t, "both", x, api.EInval)
					x.q.Offset, x.q.Length = v, -v
					wantCheck(t, "both, which make 0", x, api.EInval)
				}
			}
		}
	}
}

// P11.2, rule 4: each command of a ReadOnly export.
func TestReadOnly(t *testing.T) {
	for _, s := range []api.Session{telling(chunks), telling(wide), telling(both), neither} {
		for _, x := range []struct {
			command uint16
			code    uint32
		}{
			{api.CmdRead, 0}, {api.CmdWrite, api.EPerm}, {api.CmdDisc, 0}, {api.CmdFlush, 0},
			{api.CmdTrim, api.EPerm}, {api.CmdCache, 0}, {api.CmdZeroes, api.EPerm}, {api.CmdStatus, 0}, {8, api.EInval}, {65535, api.EInval},
		} {
			q := ask(s, x.command, 0, 512)
			if x.command == api.CmdFlush {
				q.Length = 0
			}
			code := x.code
			if x.command == api.CmdStatus && len(s.Contexts) == 0 {
				code = api.EInval
			}
			wantCheck(t, "rule 4", asked{only(small()), s, payload(1024), q}, code)
			if x.code != api.EPerm {
				continue
			}
			for _, r := range [][2]uint64{{0, 0}, {0, 1536}, {4096, 512}, {1, 511}, {top, top}} {
				q := ask(s, x.command, r[0], r[1])
				wantCheck(t, "rule 4 ahead of those of ranges", asked{only(small()), s, payload(1024), q}, api.EPerm)
			}
		}
	}
}

// P11.2, rule 5: a block status wants chunks and contexts, how many and whichever these are.
func TestStatus(t *testing.T) {
	for _, x := range []struct {
		s    api.Session
		code uint32
	}{{neither, api.EInval}, {chunks, 0}, {wide, 0}, {both, 0}} {
		for _, contexts := range [][]uint32{{1}, {0}, {77}, {1, 2, 3}, {3, 3}, {1<<32 - 1}} {
			x.s.Contexts = contexts
			for _, f := range []uint16{0, api.FlagOne, api.FlagFua, api.FlagOne | api.FlagFua} {
				wantCheck(t, "with contexts", asked{small(), x.s, payload(512), api.Request{Type: api.CmdStatus, Flags: f, Length: 512}}, x.code)
			}
		}
		for _, contexts := range [][]uint32{nil, {}, make([]uint32, 0, 4)} {
			x.s.Contexts = contexts
			wantCheck(t, "without contexts", asked{small(), x.s, payload(512), api.Request{Type: api.CmdStatus, Length: 512}}, api.EInval)
		}
	}
}

// P11.2, rule 6: Length 0 is refused wherever it begins.
func TestLengthZero(t *testing.T) {
	for _, s := range []api.Session{telling(chunks), telling(wide)} {
		for _, c := range ranged() {
			for _, offset := range []uint64{0, 1, 512, 4095, 4096, 4097, top} {
				for _, e := range []api.Export{small(), blocks(small(), 1), sectors(small(), 0)} {
					wantCheck(t, "rule 6", asked{e, s, payload(1024), ask(s, c, offset, 0)}, api.EInval)
				}
			}
		}
		fast := api.Request{Type: api.CmdZeroes, Flags: api.FlagFast | api.FlagNoHole, Offset: 1}
		wantCheck(t, "rule 6 ahead of rule 11", asked{large(), s, payload(1024), fast}, api.EInval)
	}
}

// P11.2, rule 7: at the limit, and one above it; only CmdRead and CmdWrite are asked.
func TestPayload(t *testing.T) {
	for _, s := range []api.Session{telling(chunks), telling(wide)} {
		for _, limit := range []uint32{1, 511, 512, 1024, 65537, 1 << 20} {
			for _, c := range ranged() {
				over := uint32(0)
				if c == api.CmdRead || c == api.CmdWrite {
					over = api.EInval
				}
				n := uint64(limit)
				wantCheck(t, "one below", asked{large(), s, payload(limit + 1), ask(s, c, 0, n)}, 0)
				wantCheck(t, "at the limit", asked{large(), s, payload(limit), ask(s, c, 0, n)}, 0)
				wantCheck(t, "one above", asked{large(), s, payload(limit), ask(s, c, 0, n+1)}, over)
			}
		}
		for _, c := range []uint16{api.CmdRead, api.CmdWrite} {
			wantCheck(t, "a limit of 0", asked{large(), s, payload(0), ask(s, c, 0, 1)}, api.EInval)
			wantCheck(t, "what is 512 in fewer bits", asked{sectors(large(), 1<<40), s, payload(1024), ask(s, c, 0, 1<<32+512)}, api.EInval)
		}
	}
}

// P11.2, rule 8: at MaxDF, one above it; only FlagDF asks it.
func TestOnePiece(t *testing.T) {
	for _, s := range []api.Session{chunks, wide, both} {
		for _, f := range []uint16{api.FlagDF, api.FlagDF | api.FlagFua} {
			x := asked{large(), s, payload(1 << 20), api.Request{Type: api.CmdRead, Flags: f, Length: 65535}}
			wantCheck(t, "one below", x, 0)
			x.q.Length = 65536
			wantCheck(t, "at MaxDF", x, 0)
			x.q.Length = 65537
			wantCheck(t, "one above", x, api.EOverflow)
			x.q.Length = 1 << 20
			wantCheck(t, "far above", x, api.EOverflow)
			x.q.Flags = api.FlagFua
			wantCheck(t, "without FlagDF", x, 0)
			x.q = api.Request{Type: api.CmdRead, Flags: f, Offset: top, Length: 65537}
			wantCheck(t, "beyond the size as well", x, api.EOverflow)
			x.l.Payload = 65536
			wantCheck(t, "above the payload as well", x, api.EInval)
		}
	}
}

// P11.2, rule 9: ranges about the end of an export, for each command.
func TestBounds(t *testing.T) {
	e := blocks(small(), 1)
	for _, x := range []struct {
		offset, length uint64
		inside         bool
	}{
		{0, 1, true}, {0, 4096, true}, {4095, 1, true}, {3584, 512, true}, {1, 4095, true},
		{0, 4097, false}, {1, 4096, false}, {4095, 2, false}, {3584, 513, false},
		{4096, 1, false}, {4096, 512, false}, {4097, 1, false}, {5000, 1, false}, {8192, 1, false},
		{top, 1, false}, {top, 2, false}, {top - 511, 512, false}, {top - 511, 513, false}, {top - 511, 4096, false},
		{1 << 63, 1 << 31, false}, {1 << 63, 1, false}, {4096, 1<<32 - 4097, false}, {1<<32 + 1, 1, false},
	} {
		wantOfAll(t, fmt.Sprintf("from %d on %d", x.offset, x.length), e, x.offset, x.length, x.inside)
	}
	for _, c := range []uint16{api.CmdTrim, api.CmdCache, api.CmdZeroes, api.CmdStatus} {
		for _, x := range [][2]uint64{{0, top}, {1, top}, {4096, top - 4095}, {4096, top}, {1 << 63, 1 << 63}, {top, top}, {4095, top - 4094}, {512, top - 511}} {
			wantCheck(t, "Offset and Length pass 2^64, or come near it", asked{e, telling(chunks), payload(512), ask(chunks, c, x[0], x[1])}, beyond(c))
		}
	}
}

// P11.2, rule 9: exports of no bytes, be it by their number or since 512 times it is 0 modulo 2^64, have no range.
func TestSizeZero(t *testing.T) {
	for _, n := range []int{0, -1, -8, -1 << 62, -1 << 63, 1 << 55, 1 << 56, 3 << 55, 1 << 62} {
		e := sectors(large(), n)
		for _, x := range [][2]uint64{{0, 1}, {0, 512}, {1, 1}, {512, 512}, {top, 1}, {top - 511, 512}, {1 << 63, 512}} {
			wantOfAll(t, fmt.Sprintf("%d sectors", n), e, x[0], x[1], false)
		}
	}
}

// P11.2, rule 9: 512 times the sectors, modulo 2^64.
func TestSizeWraps(t *testing.T) {
	for _, x := range []struct {
		sectors int
		size    uint64
	}{
		{1, 512}, {65536, 1 << 25}, {1<<55 - 1, top - 511}, {1 << 54, 1 << 63},
		{1<<55 + 1, 512}, {1<<55 + 8, 4096}, {1<<63 - 1, top - 511}, {1<<62 + 3, 1536}, {3<<55 + 2, 1024},
	} {
		e := sectors(large(), x.sectors)
		what := fmt.Sprintf("%d sectors", x.sectors)
		wantOfAll(t, what+": the last byte", e, x.size-1, 1, true)
		wantOfAll(t, what+": the last 512", e, x.size-512, 512, true)
		wantOfAll(t, what+": one too many", e, x.size-511, 512, false)
		wantOfAll(t, what+": at the end", e, x.size, 1, false)
		wantOfAll(t, what+": behind it", e, x.size+1, 1, false)
	}
}

// P11.2, rule 10: Min 0 and 1 ask nothing; any other one asks for multiples, a power of two or not.
func TestBlocks(t *testing.T) {
	for _, x := range []struct {
		min            uint32
		offset, length uint64
		code           uint32
	}{
		{0, 0, 1, 0}, {0, 3, 5, 0}, {0, 511, 513, 0}, {1, 0, 1, 0}, {1, 3, 5, 0}, {1, 511, 513, 0},
		{512, 0, 512, 0}, {512, 512, 1024, 0}, {512, 1, 512, api.EInval}, {512, 0, 511, api.EInval}, {512, 0, 513, api.EInval},
		{512, 511, 512, api.EInval}, {512, 256, 256, api.EInval}, {512, 512, 256, api.EInval}, {512, 513, 511, api.EInval},
		{2, 2, 2, 0}, {2, 1, 2, api.EInval}, {2, 2, 1, api.EInval}, {2, 1, 1, api.EInval},
		{3, 3, 6, 0}, {3, 0, 9, 0}, {3, 1, 3, api.EInval}, {3, 3, 4, api.EInval}, {3, 2, 1, api.EInval}, {3, 4, 4, api.EInval},
		{1000, 2000, 1000, 0}, {1000, 1024, 1000, api.EInval}, {1000, 1000, 1024, api.EInval}, {4096, 4096, 4096, 0}, {4096, 512, 4096, api.EInval}, {4096, 4096, 512, api.EInval},
		{1<<32 - 1, 0, 512, api.EInval}, {1 << 31, 0, 512, api.EInval},
	} {
		for _, s := range []api.Session{telling(chunks), telling(wide)} {
			for _, c := range ranged() {
				wantCheck(t, "rule 10", asked{blocks(large(), x.min), s, payload(1 << 20), ask(s, c, x.offset, x.length)}, x.code)
			}
		}
	}
	e := sectors(blocks(large(), 1<<32-1), 1<<40)
	for _, c := range []uint16{api.CmdTrim, api.CmdCache, api.CmdZeroes} {
		wantCheck(t, "the greatest Min", asked{e, chunks, payload(512), ask(chunks, c, 3*(1<<32-1), 2*(1<<32-1))}, 0)
		wantCheck(t, "the greatest Min, not on it", asked{e, chunks, payload(512), ask(chunks, c, 3<<32, 2*(1<<32-1))}, api.EInval)
	}
}

// P11.2, rules 9 and 10: what reaches beyond the size and is on no block is told by rule 9.
func TestBoundsAheadOfBlocks(t *testing.T) {
	for _, x := range [][2]uint64{{4095, 512}, {1, 4096}, {4097, 1}, {3585, 512}, {4096, 1}, {top, 1}} {
		wantOfAll(t, "rule 9", small(), x[0], x[1], false)
	}
}

// P11.2, rule 11: zeros that are laid by bits alone are holes, of whole sectors.
func TestFast(t *testing.T) {
	for _, x := range []struct {
		flags          uint16
		offset, length uint64
		code           uint32
	}{
		{16, 0, 512, 0}, {16, 512, 1024, 0}, {16 + 1, 512, 512, 0},
		{16 + 2, 0, 512, api.ENotSup}, {16 + 2 + 1, 512, 512, api.ENotSup}, {16 + 2, 1, 511, api.ENotSup},
		{16, 1, 512, api.ENotSup}, {16, 511, 512, api.ENotSup}, {16, 513, 512, api.ENotSup}, {16, 256, 256, api.ENotSup},
		{16, 0, 511, api.ENotSup}, {16, 0, 513, api.ENotSup}, {16, 0, 1, api.ENotSup}, {16, 0, 256, api.ENotSup}, {16 + 1, 1, 511, api.ENotSup},
		{0, 1, 511, 0}, {2, 1, 511, 0}, {1, 0, 513, 0}, {2, 0, 512, 0},
		{16, 2097152, 512, api.ENoSpc}, {16 + 2, 2097152, 512, api.ENoSpc}, {16, top, 1, api.ENoSpc}, {16, 0, 0, api.EInval},
	} {
		for _, s := range sessions() {
			q := api.Request{Type: api.CmdZeroes, Flags: x.flags, Offset: x.offset, Length: x.length}
			wantCheck(t, "rule 11", asked{large(), s, payload(512), q}, x.code)
		}
	}
	off := api.Request{Type: api.CmdZeroes, Flags: api.FlagFast | api.FlagNoHole, Offset: 1, Length: 512}
	wantCheck(t, "rule 10 ahead of rule 11", asked{small(), chunks, payload(512), off}, api.EInval)
	off.Offset, off.Length = 3, 3
	wantCheck(t, "on blocks of three, not on sectors", asked{blocks(small(), 3), chunks, payload(512), off}, api.ENotSup)
}
