package nego_test

import (
	"math"
	"strings"
	"testing"

	"spindle/api"
	"spindle/nego"
)

// flagsOf reckons the flags from the numbers of P10.6.
func flagsOf(e api.Export, structured bool) uint16 {
	f := 1 + 4 + 8 + 1024
	if e.ReadOnly {
		f += 2
	}
	if !e.ReadOnly {
		f += 32 + 64 + 2048
	}
	if e.Rotational {
		f += 16
	}
	if structured {
		f += 128
	}
	if !e.Private {
		f += 256
	}
	return uint16(f)
}

// wantInfos looks at all that Export tells.
func wantInfos(t *testing.T, e api.Export, l api.Limits, structured bool, size uint64) {
	t.Helper()
	wanted := []api.Info{
		{Kind: 0, Size: size, Flags: flagsOf(e, structured)},
		{Kind: 1, Text: e.Name},
		{Kind: 2, Text: e.Desc},
		{Kind: 3, Min: e.Min, Pref: e.Pref, Max: l.Payload},
	}
	for range 2 {
		if got := nego.Export(e, l, structured); !same(got, wanted) {
			t.Errorf("Export of %s, %+v, %v: %s, want %s", told(e), l, structured, told(got), told(wanted))
		}
	}
}

// P10.6: the flags, whatever an export is.
func TestExportFlags(t *testing.T) {
	for bits := range 32 {
		is := func(bit int) bool { return bits&bit != 0 }
		e := with(export("a", 3), func(e *api.Export) {
			e.ReadOnly, e.Rotational, e.Private, e.Tracked = is(1), is(2), is(4), is(8)
		})
		wantInfos(t, e, limits(), is(16), 1536)
	}
	plain := nego.Export(export("a", 1), limits(), false)[0].Flags
	want(t, "nothing special", plain, uint16(plainFlags))
	special := api.Export{ReadOnly: true, Rotational: true, Private: true, Tracked: true}
	want(t, "all of it", nego.Export(special, limits(), true)[0].Flags, api.TxHas|api.TxReadOnly|api.TxFlush|api.TxFua|api.TxRotational|api.TxDF|api.TxCache)
}

// P10.6: the size, modulo 2^64, and Sectors below 0.
func TestExportSize(t *testing.T) {
	sizes := []struct {
		sectors int
		size    uint64
	}{
		{0, 0}, {1, 512}, {2, 1024}, {65536, 1 << 25}, {1 << 40, 1 << 49}, {1<<54 - 1, 1<<63 - 512}, {1 << 54, 1 << 63}, {1<<55 - 1, math.MaxUint64 - 511},
		{1 << 55, 0}, {1<<55 + 1, 512}, {1 << 62, 0}, {math.MaxInt, math.MaxUint64 - 511}, {-1, 0}, {-65536, 0}, {math.MinInt, 0}, {math.MinInt + 1, 0},
	}
	for _, s := range sizes {
		wantInfos(t, export("a", s.sectors), limits(), false, s.size)
	}
}

// P10.6: the texts and block sizes as they are, right or not; the greatest payload alone of the limits.
func TestExportOfAnything(t *testing.T) {
	for _, text := range []string{"", "a", "é€", "\x00", "\xff\xfe", strings.Repeat("n", 257), strings.Repeat("n", 70000)} {
		wantInfos(t, api.Export{Name: text, Desc: "d"}, limits(), true, 0)
		wantInfos(t, api.Export{Name: "n", Desc: text}, limits(), true, 0)
	}
	for _, n := range []uint32{0, 1, 3, 512, 4096, 1 << 31, max32} {
		wantInfos(t, api.Export{Min: n, Pref: 7}, limits(), false, 0)
		wantInfos(t, api.Export{Min: 7, Pref: n}, limits(), false, 0)
		wantInfos(t, export("a", 1), api.Limits{Payload: n}, false, 512)
		wantInfos(t, export("a", 1), api.Limits{Payload: 5, Option: n, Flight: int(n)}, false, 512)
	}
	wantInfos(t, export("a", 1), api.Limits{Payload: 5, Flight: math.MinInt}, false, 512)
	wantInfos(t, api.Export{}, api.Limits{}, false, 0)
	for _, e := range wrongExports() {
		wantInfos(t, e, limits(), false, uint64(max(e.Sectors, 0))*512)
	}
}
