package nego_test

import (
	"fmt"
	"math"
	"slices"
	"strings"
	"testing"

	"spindle/api"
	"spindle/label"
	"spindle/nego"
)

// rightExports are lists of exports that a label may have.
func rightExports() [][]api.Export {
	pref := func(low, high uint32) api.Export { return api.Export{Name: "a", Sectors: 8, Min: low, Pref: high} }
	return [][]api.Export{
		two(), mixed(), full(), full()[:15], {export("a", 1)},
		{export(strings.Repeat("n", 256), 1)}, {with(export("a", 1), func(e *api.Export) { e.Desc = strings.Repeat("d", 256) })},
		{export("a", 65478)}, {export("a", 32735), export("b", 32743)},
		{pref(512, 512)}, {pref(4096, 65536)}, {pref(1, 65536)}, {export("a", 1), export("A", 1), export("a ", 1)},
	}
}

// wrongExports are exports that no label may have.
func wrongExports() []api.Export {
	a := export("a", 8)
	var out []api.Export
	for _, name := range []string{"", "\x00", "a\x00", "\xff", "a\xc3", strings.Repeat("n", 257), strings.Repeat("n", 5000)} {
		out = append(out, export(name, 8))
	}
	for _, desc := range []string{"\x00", "d\x00", "\xff", strings.Repeat("d", 257)} {
		out = append(out, with(a, func(e *api.Export) { e.Desc = desc }))
	}
	for _, sectors := range []int{0, -1, math.MinInt, 65479, api.MaxSectors, api.MaxSectors + 1, math.MaxInt} {
		out = append(out, export("a", sectors))
	}
	for _, low := range []uint32{0, 2, 3, 256, 511, 513, 1536, 8192, max32} {
		out = append(out, with(a, func(e *api.Export) { e.Min, e.Pref = low, 65536 }))
	}
	for _, best := range []uint32{0, 1, 256, 513, 1536, 131072, max32} {
		out = append(out, with(a, func(e *api.Export) { e.Pref = best }))
	}
	return append(out,
		with(a, func(e *api.Export) { e.Min, e.Pref = 1024, 512 }),
		with(a, func(e *api.Export) { e.Min, e.Pref, e.Sectors = 4096, 4096, 9 }),
		with(a, func(e *api.Export) { e.Private, e.ReadOnly = true, true }),
		with(a, func(e *api.Export) { e.Private, e.Tracked = true, true }))
}

// wrongLists are lists of exports that no label may have.
func wrongLists() [][]api.Export {
	out := [][]api.Export{
		nil, {}, append(full(), export("b", 1)), {export("a", 1), export("a", 2)}, {export("a", 1), export("b", 1), export("a", 1)},
		{export("a", 32735), export("b", 32744)}, {{}}, {export("a", 1), {}},
	}
	for _, e := range wrongExports() {
		out = append(out, []api.Export{e}, []api.Export{export("first", 1), e}, []api.Export{e, export("last", 1)})
	}
	return out
}

// P10.1: Right answers OK or ErrExports, by what label.Check has to say.
func TestRight(t *testing.T) {
	for i, l := range rightExports() {
		wantErr(t, fmt.Sprint("right exports ", i), nego.Right(l), api.OK)
		wantErr(t, fmt.Sprint("Check of right exports ", i), label.Check(api.Label{Exports: l}), api.OK)
	}
	for i, l := range wrongLists() {
		wantErr(t, fmt.Sprint("wrong exports ", i), nego.Right(l), api.ErrExports)
		wantErr(t, fmt.Sprint("Check of wrong exports ", i), label.Check(api.Label{Exports: l}), api.ErrLabel)
	}
}

func wantNoTalk(t *testing.T, what string, exports []api.Export, l api.Limits, wanted api.Errno) {
	t.Helper()
	x, e := nego.New(exports, l)
	wantErr(t, what, e, wanted)
	want(t, what+": a talk", x != nil, false)
}

// P10.2, R3: exports that may not be are refused, whatever the limits are.
func TestNewOfExports(t *testing.T) {
	for i, l := range rightExports() {
		x, e := nego.New(l, limits())
		wantErr(t, fmt.Sprint("right exports ", i), e, api.OK)
		want(t, fmt.Sprint("right exports ", i, ": a talk"), x != nil, true)
	}
	for i, l := range wrongLists() {
		wantNoTalk(t, fmt.Sprint("wrong exports ", i), l, limits(), api.ErrExports)
		wantNoTalk(t, fmt.Sprint("wrong exports and limits ", i), l, api.Limits{}, api.ErrExports)
	}
}

// P10.2, R7: limits at each bound, and one beyond it.
func TestNewOfLimits(t *testing.T) {
	payloads := []uint32{512, 513, 4096, 1048575, 1048576}
	options := []uint32{64, 65, 65535, 65536}
	flights := []int{1, 2, 63, 64}
	for _, payload := range payloads {
		for _, option := range options {
			for _, flight := range flights {
				l := api.Limits{Payload: payload, Option: option, Flight: flight}
				x, e := nego.New(two(), l)
				wantErr(t, told(l), e, api.OK)
				want(t, told(l)+": a talk", x != nil, true)
			}
		}
	}
	var wrong []api.Limits
	for _, payload := range []uint32{0, 1, 511, 1048577, 1 << 31, max32} {
		wrong = append(wrong, api.Limits{Payload: payload, Option: 64, Flight: 1})
	}
	for _, option := range []uint32{0, 1, 63, 65537, 1 << 31, max32} {
		wrong = append(wrong, api.Limits{Payload: 512, Option: option, Flight: 1})
	}
	for _, flight := range []int{math.MinInt, -1, 0, 65, 1 << 32, 1<<32 + 1, math.MaxInt} {
		wrong = append(wrong, api.Limits{Payload: 512, Option: 64, Flight: flight})
	}
	for _, l := range slices.Concat(wrong, []api.Limits{{}, {Payload: 1048577, Option: 65537, Flight: 65}}) {
		wantNoTalk(t, told(l), two(), l, api.ErrLimits)
	}
}

// P10.2: a new talk awaits flags, and nothing else.
func TestNewAwaitsFlags(t *testing.T) {
	for i, l := range rightExports() {
		what := fmt.Sprint("right exports ", i)
		x := fresh(t, l)
		wantSession(t, what, x, api.Session{}, false)
		wantNoAnswer(t, what, x, sent(api.OptList), api.ErrOver)
		wantErr(t, what, x.Flags(3), api.OK)
		wantAcked(t, what, x, sent(api.OptStructured))
	}
}
