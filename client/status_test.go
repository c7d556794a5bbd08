package client_test

import (
	"fmt"
	"slices"
	"testing"

	"spindle/api"
)

// statusOf is a chunk of the status with cookie 1 that begins at 16.
func (f form) statusOf(flags uint16, context uint32, runs ...run) []byte {
	return f.chunk(flags, f.statusKind(), 1, 16, statusBody(f.extended, context, runs...)...)
}

// of a context, as it is told.
func runsOf(context uint32, runs ...run) api.ContextRuns {
	s := api.ContextRuns{Context: context}
	for _, r := range runs {
		s.Runs = append(s.Runs, api.StatusRun{Len: r.len, Flags: r.flags})
	}
	return s
}

func statusDone(list ...api.ContextRuns) api.Event {
	return api.Event{Kind: api.EvDone, Cookie: 1, Status: list}
}

// P16.6: each chosen context once, told in the order in which they came, which need not be that of their choosing.
func TestStatus(t *testing.T) {
	for _, f := range chunked() {
		one, seven := []run{{3, 1}, {1, 0}}, []run{{2, max32}}
		c := waiting(t, f, status(16, 4))
		wantEvents(t, f.name, c.In(stepped(t, f.name, c, f.statusOf(0, 1, one...), f.statusOf(1, 7, seven...))), statusDone(runsOf(1, one...), runsOf(7, seven...)))
		c = waiting(t, f, status(16, 4))
		wantEvents(t, f.name, c.In(stepped(t, f.name, c, f.statusOf(0, 7, seven...), f.statusOf(0, 1, one...), f.chunk(1, 0, 1, 16))), statusDone(runsOf(7, seven...), runsOf(1, one...)))
		wantBreak(t, "one is missing", waiting(t, f, status(16, 4)), f.statusOf(1, 1, one...))
		wantBreak(t, "both are missing", waiting(t, f, status(16, 4)), f.chunk(1, 0, 1, 16))
		for _, other := range []uint32{0, 2, 6, 8, 257, max32} {
			wantBreak(t, "one that was not chosen", waiting(t, f, status(16, 4)), f.statusOf(0, other, seven...))
		}
		for flags := range uint16(2) {
			c = waiting(t, f, status(16, 4))
			c.In(f.statusOf(0, 7, seven...))
			wantBreak(t, "told twice", c, f.statusOf(flags, 7, one...))
		}
	}
}

// P16.6: a status of two requests between one another.
func TestStatusesBetweenOneAnother(t *testing.T) {
	c := waiting(t, inChunks, status(16, 4))
	mustRequest(t, c, status(16, 9))
	of := func(cookie uint64, flags uint16, context uint32, n uint64) []byte {
		return inChunks.chunk(flags, 5, cookie, 0, statusBody(false, context, run{n, 0})...)
	}
	stepped(t, "both", c, of(1, 0, 1, 4), of(2, 0, 1, 9), nil)
	wantEvents(t, "the second", c.In(of(2, 1, 7, 8)), api.Event{Kind: api.EvDone, Cookie: 2, Status: []api.ContextRuns{runsOf(1, run{9, 0}), runsOf(7, run{8, 0})}})
	wantEvents(t, "the first", c.In(of(1, 1, 7, 1)), statusDone(runsOf(1, run{4, 0}), runsOf(7, run{1, 0})))
}

// P16.6: the runs: none of Len 0, together at most Length; sums do not wrap. With FlagOne just one.
func TestStatusRuns(t *testing.T) {
	lists := [][]run{
		{{4, 0}}, {{1, 5}}, {{1, 0}, {3, 0}}, {{2, 0}, {1, 0}}, {{1, 0}, {1, 0}, {1, 0}, {1, 0}}, {{3, max32}},
		{{0, 0}}, {{5, 0}}, {{4, 0}, {1, 0}}, {{1, 0}, {4, 0}}, {{0, 1}, {4, 0}}, {{4, 0}, {0, 0}}, {{2, 0}, {0, 0}, {2, 0}}, {{max32, 0}}, {{1, 0}, {max32, 0}},
	}
	wide := [][]run{{{max64, 0}}, {{1, 0}, {max64, 0}}, {{4, 0}, {max64 - 2, 0}}, {{4, max64}}, {{1 << 32, 0}}, {{1<<32 + 1, 0}}, {{3, 0}, {max64, 0}, {2, 0}}}
	for _, f := range chunked() {
		all := lists
		if f.extended {
			all = append(slices.Clone(lists), wide...)
		}
		for _, one := range []uint16{0, api.FlagOne} {
			for _, runs := range all {
				what := fmt.Sprintf("%s: flags %d, runs %v", f.name, one, runs)
				c := waiting(t, f, status(16, 4, one))
				sum, ok := 0.0, true
				for _, r := range runs {
					sum += float64(r.len)
					ok = ok && r.len > 0
				}
				if ok = ok && sum <= 4 && (one == 0 || len(runs) == 1); !ok {
					wantBreak(t, what, c, f.statusOf(0, 1, runs...))
					continue
				}
				wantEvents(t, what, c.In(f.statusOf(0, 1, runs...)))
				wantEvents(t, what, c.In(f.statusOf(1, 7, run{4, 9})), statusDone(runsOf(1, runs...), runsOf(7, run{4, 9})))
			}
		}
	}
	c := waiting(t, extended, status(16, max64))
	wantEvents(t, "as long as can be", c.In(extended.statusOf(0, 1, run{max64 - 5, 1}, run{5, 0})))
	wantBreak(t, "one longer", c, extended.statusOf(0, 7, run{max64 - 5, 1}, run{6, 0}))
	wantBreak(t, "of no byte", waiting(t, extended, status(16, 0)), extended.statusOf(0, 1, run{1, 0}))
}

// P16.6: other flags than FlagOne do not hold a status to one run.
func TestStatusWithOtherFlags(t *testing.T) {
	for bit := range 16 {
		if 1<<bit == api.FlagOne {
			continue
		}
		c := waiting(t, inChunks, status(16, 4, 1<<bit))
		wantEvents(t, fmt.Sprint("flag ", 1<<bit), c.In(inChunks.statusOf(0, 1, run{1, 0}, run{2, 1})))
	}
}

// P16.6: bodies that cannot be unpacked, among them those of the other width.
func TestStatusBodies(t *testing.T) {
	for _, f := range chunked() {
		right := statusBody(f.extended, 1, run{1, 2}, run{2, 3})
		for n := range len(right) {
			if f.extended || n != 12 {
				wantBreak(t, "cut off", waiting(t, f, status(16, 4)), f.chunk(0, f.statusKind(), 1, 16, right[:n]...))
			}
		}
		wantBreak(t, "too long", waiting(t, f, status(16, 4)), f.chunk(0, f.statusKind(), 1, 16, lay(right, "x")...))
		wantBreak(t, "no run", waiting(t, f, status(16, 4)), f.chunk(0, f.statusKind(), 1, 16, statusBody(f.extended, 1)...))
		wantBreak(t, "another width", waiting(t, f, status(16, 4)), f.chunk(0, f.statusKind(), 1, 16, statusBody(!f.extended, 1, run{1, 2})...))
		other := uint16(api.ChunkStatus + api.ChunkStatus64 - f.statusKind())
		for _, wide := range []bool{false, true} {
			wantBreak(t, "another type", waiting(t, f, status(16, 4)), f.chunk(0, other, 1, 16, statusBody(wide, 1, run{1, 2})...))
		}
	}
}

// P16.6: a body that cannot be unpacked tells of no context, of 0 neither.
func TestStatusOfContextZero(t *testing.T) {
	for _, f := range []form{{chunks: true, contexts: []uint32{0}}, {chunks: true, extended: true, contexts: []uint32{0}}} {
		for _, b := range [][]byte{nil, {0, 0, 0, 0}, statusBody(f.extended, 0), lay(statusBody(f.extended, 0, run{1, 0}), "x")} {
			wantBreak(t, "no status", waiting(t, f, status(16, 4)), f.chunk(1, f.statusKind(), 1, 16, b...))
		}
		c := waiting(t, f, status(16, 4))
		wantEvents(t, "context 0", c.In(f.statusOf(1, 0, run{4, 3})), statusDone(runsOf(0, run{4, 3})))
	}
}

// P16.6: where no context is chosen nothing is told, and nothing is missing.
func TestStatusWithoutContexts(t *testing.T) {
	for _, f := range []form{{chunks: true}, {chunks: true, extended: true}} {
		c := waiting(t, f, status(16, 4))
		wantEvents(t, "none", c.In(f.chunk(1, 0, 1, 16)), done(1, 0))
		wantBreak(t, "one", waiting(t, f, status(16, 4)), f.statusOf(0, 1, run{4, 0}))
	}
}
