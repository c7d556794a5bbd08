package rule_test

import (
	"fmt"
	"slices"
	"testing"

	"spindle/api"
)

// right answers the sets of flags that a command may come with, laid down by hand.
func right(command uint16, s api.Session) []uint16 {
	inChunks := s.Structured || s.Extended
	switch {
	case command == api.CmdRead && inChunks:
		return []uint16{0, 1, 4, 1 + 4}
	case command == api.CmdWrite && s.Extended:
		return []uint16{32, 32 + 1}
	case command == api.CmdZeroes:
		return []uint16{0, 1, 2, 1 + 2, 16, 16 + 1, 16 + 2, 16 + 2 + 1}
	case command == api.CmdStatus:
		return []uint16{0, 1, 8, 8 + 1}
	}
	return []uint16{0, 1}
}

// P11.2, rule 2: every set of flags, bits that are none among them, with every command and every kind of session.
func TestEverySetOfFlags(t *testing.T) {
	for _, s := range sessions() {
		for _, c := range eight() {
			sets := right(c, s)
			x := asked{large(), s, payload(1024), api.Request{Type: c, Length: 512}}
			if c == api.CmdFlush {
				x.q.Length = 0
			}
			for f := range 65536 {
				x.q.Flags = uint16(f)
				code := uint32(0)
				switch {
				case !slices.Contains(sets, x.q.Flags):
					code = api.EInval
				case c == api.CmdStatus && (len(s.Contexts) == 0 || !s.Structured && !s.Extended):
					code = api.EInval
				case f&(api.FlagFast|api.FlagNoHole) == api.FlagFast|api.FlagNoHole:
					code = api.ENotSup
				}
				if got := x.check(); got != code {
					t.Fatalf("command %d, flags %d, %+v: %d, want %d", c, f, s, got, code)
				}
			}
		}
	}
}

// P11.2, rule 2: it stands ahead of all but rule 1, so that flags of a wrong kind are EInval, whatever else is wrong.
func TestFlagsAheadOfTheRest(t *testing.T) {
	for _, s := range sessions() {
		for _, c := range eight() {
			for bit := range 16 {
				f := uint16(1) << bit
				if c == api.CmdWrite && s.Extended {
					f |= api.FlagPayload
				}
				if slices.Contains(right(c, s), f) {
					continue
				}
				for _, e := range []api.Export{only(small()), sectors(small(), 0), only(sectors(small(), -1))} {
					for _, r := range [][2]uint64{{0, 0}, {0, 512}, {1, 513}, {top, top}, {0, api.MaxDF + 1}} {
						q := api.Request{Type: c, Flags: f, Offset: r[0], Length: r[1]}
						wantCheck(t, "rule 2", asked{e, s, payload(1 << 20), q}, api.EInval)
					}
				}
			}
		}
	}
}

// P11.2, rule 2: FlagPayload must be there of a CmdWrite of an extended session, and may be there of nothing else.
func TestFlagPayload(t *testing.T) {
	for _, s := range sessions() {
		for _, c := range append(eight(), strange()...) {
			for _, fua := range []uint16{0, api.FlagFua} {
				x := asked{only(large()), telling(s), payload(1024), api.Request{Type: c, Flags: fua, Length: 512}}
				x.q.Flags |= api.FlagPayload
				code := api.EInval
				if c == api.CmdWrite && s.Extended {
					code = api.EPerm
				}
				wantCheck(t, "with it, of a ReadOnly one", x, code)
				x.e.ReadOnly = false
				if code == api.EPerm {
					code = 0
				}
				wantCheck(t, "with it", x, code)
			}
		}
		x := asked{only(large()), s, payload(1024), api.Request{Type: api.CmdWrite, Length: 512}}
		code := api.EPerm
		if s.Extended {
			code = api.EInval
		}
		wantCheck(t, "without it, of a ReadOnly one", x, code)
	}
}

// P11.2, rule 2: FlagDF asks for chunks, which come with structured answers and with extended headers.
func TestFlagDF(t *testing.T) {
	for _, x := range []struct {
		s    api.Session
		code uint32
	}{{neither, api.EInval}, {chunks, 0}, {wide, 0}, {both, 0}} {
		for _, f := range []uint16{api.FlagDF, api.FlagDF | api.FlagFua} {
			q := api.Request{Type: api.CmdRead, Flags: f, Length: 512}
			wantCheck(t, "CmdRead", asked{small(), x.s, payload(1024), q}, x.code)
			wantCheck(t, "CmdRead with a context", asked{small(), telling(x.s), payload(1024), q}, x.code)
			for _, c := range eight()[1:] {
				q := flagged(ask(x.s, c, 0, 512), f)
				wantCheck(t, fmt.Sprintf("command %d", c), asked{small(), telling(x.s), payload(1024), q}, api.EInval)
			}
		}
	}
}
