package rule_test

import (
	"fmt"
	"slices"
	"testing"

	"spindle/api"
	"spindle/rule"
)

const top = 1<<64 - 1

// asked is all that Check is handed.
type asked struct {
	e api.Export
	s api.Session
	l api.Limits
	q api.Request
}

func (x asked) check() uint32 { return rule.Check(x.e, x.s, x.l, x.q) }

func (x asked) String() string { return fmt.Sprintf("%+v %+v %+v %+v", x.e, x.s, x.l, x.q) }

// small is the chapter's export.
func small() api.Export { return api.Export{Name: "a", Sectors: 8, Min: 512, Pref: 512} }

// large is one for ranges longer than MaxDF, without blocks.
func large() api.Export { return api.Export{Name: "a", Sectors: 4096, Min: 1, Pref: 512} }

// only gives an export that is ReadOnly.
func only(e api.Export) api.Export {
	e.ReadOnly = true
	return e
}

// blocks gives an export with another Min.
func blocks(e api.Export, min uint32) api.Export {
	e.Min = min
	return e
}

// sectors gives an export of another size.
func sectors(e api.Export, n int) api.Export {
	e.Sectors = n
	return e
}

func payload(n uint32) api.Limits { return api.Limits{Payload: n, Option: 64, Flight: 1} }

// The sessions that there are, by what was agreed upon.
var (
	neither = api.Session{}
	chunks  = api.Session{Structured: true}
	wide    = api.Session{Extended: true}
	both    = api.Session{Structured: true, Extended: true}
)

// telling gives a session that has a context.
func telling(s api.Session) api.Session {
	s.Contexts = []uint32{api.ContextBase}
	return s
}

// sessions are those of all kinds, without contexts and with them.
func sessions() []api.Session {
	var out []api.Session
	for _, s := range []api.Session{neither, chunks, wide, both} {
		out = append(out, s, telling(s))
	}
	return out
}

// eight are the commands.
func eight() []uint16 {
	return []uint16{api.CmdRead, api.CmdWrite, api.CmdDisc, api.CmdFlush, api.CmdTrim, api.CmdCache, api.CmdZeroes, api.CmdStatus}
}

// ranged are those that have a range.
func ranged() []uint16 {
	return []uint16{api.CmdRead, api.CmdWrite, api.CmdTrim, api.CmdCache, api.CmdZeroes, api.CmdStatus}
}

// strange are numbers of no command, some of which look like one in fewer bits.
func strange() []uint16 {
	return []uint16{8, 9, 15, 16, 255, 256, 257, 0x106, 0x107, 0x7fff, 0x8000, 0x8001, 0x8007, 0xff00, 65534, 65535}
}

// ask is a request of a command and a range, with the flags that its session asks of it.
func ask(s api.Session, command uint16, offset, length uint64) api.Request {
	q := api.Request{Type: command, Offset: offset, Length: length}
	if command == api.CmdWrite && s.Extended {
		q.Flags = api.FlagPayload
	}
	return q
}

// flagged gives a request with flags besides those that it has.
func flagged(q api.Request, flags uint16) api.Request {
	q.Flags |= flags
	return q
}

func want[T comparable](t *testing.T, what string, got, want T) {
	t.Helper()
	if got != want {
		t.Errorf("%s: %v, want %v", what, got, want)
	}
}

func wantCheck(t *testing.T, what string, x asked, code uint32) {
	t.Helper()
	if got := x.check(); got != code {
		t.Errorf("%s: %v: %d, want %d", what, x, got, code)
	}
}

// roomy gives a copy of a list with spare room behind it.
func roomy[T any](list []T, spare T) []T {
	room := append(slices.Clone(list), spare, spare, spare)
	return room[:len(list)]
}

// whole is a list with the spare room behind it.
func whole[T any](list []T) []T { return list[:cap(list)] }

// dice gives numbers that look as if thrown, the same ones in each run.
type dice uint64

func (d *dice) below(n int) int {
	*d = *d*6364136223846793005 + 1442695040888963407
	return int(uint64(*d)>>33) % n
}

func (d *dice) bool() bool { return d.below(2) == 1 }

// pick throws for one of a list.
func pick[T any](d *dice, list ...T) T { return list[d.below(len(list))] }
